package ansi_test

import (
	"math"
	"math/rand"
	"regexp"
	"slices"
	"strings"
	"testing"
	"unicode/utf8"

	"longline/ansi"
	"longline/api"
)

// wholes tell which bodies of sequences are not given up.
var (
	wholeCsi = regexp.MustCompile(`^([<=>?]?)([0-9;]*)([ -/]?)$`)
	wholeEsc = regexp.MustCompile(`^[ -/]?$`)
)

// model is a text of points, parsed as the document words it: each sequence is looked at as a whole, when its end was found.
type model struct {
	l      []int32
	at     int
	events []ansi.Event
	// closed is false, where the text ends within a sequence.
	closed bool
	// how often each case was met
	seen map[string]int
}

func worded(l []int32) *model {
	m := &model{closed: true, seen: map[string]int{}}
	for _, p := range l {
		if p >= 0 && p <= 0x10FFFF && utf8.ValidRune(p) && p != 0x7F {
			m.l = append(m.l, p)
		}
	}
	for m.at < len(m.l) {
		p := m.next()
		switch {
		case p == 0x18 || p == 0x1A:
			m.seen["cancel in ground"]++
		case p == 0x1B:
			m.escape()
		case p < 0x20:
			m.put(ansi.Event{Kind: ansi.Control, Point: p})
		default:
			m.put(ansi.Event{Kind: ansi.Print, Point: p})
		}
	}
	return m
}

func (m *model) next() int32 {
	m.at++
	return m.l[m.at-1]
}

func (m *model) put(e ansi.Event) { m.events = append(m.events, e) }

// gather takes points as long as they are of a sequence's body, and is that and what ended it: 0, if it was broken off.
func (m *model) gather(where string, isBody func(p int32) bool) (body string, final int32) {
	for m.at < len(m.l) {
		p := m.next()
		switch {
		case p == 0x18 || p == 0x1A:
			m.seen["cancel in "+where]++
			return body, 0
		case p == 0x1B:
			m.seen["escape in "+where]++
			m.escape()
			return body, 0
		case p < 0x20:
			m.seen["control in "+where]++
			m.put(ansi.Event{Kind: ansi.Control, Point: p})
		case p >= 0x80:
			m.seen["wide in "+where]++
			m.put(ansi.Event{Kind: ansi.Print, Point: p})
			return body, 0
		case isBody(p):
			body += string(p)
		default:
			return body, p
		}
	}
	m.closed = false
	return body, 0
}

func (m *model) escape() {
	body, final := m.gather("escape", func(p int32) bool { return p < 0x30 })
	switch {
	case final == 0:
	case final == '[' && body == "":
		m.csi()
	case final == ']' && body == "":
		m.osc()
	case !wholeEsc.MatchString(body):
		m.seen["two between"]++
	default:
		e := ansi.Event{Kind: ansi.Esc, Final: byte(final)}
		if body != "" {
			e.Inter = body[0]
		}
		m.put(e)
	}
}

func (m *model) csi() {
	body, final := m.gather("csi", func(p int32) bool { return p < 0x40 })
	if final == 0 {
		return
	}
	parts := wholeCsi.FindStringSubmatch(body)
	if parts == nil {
		m.seen["wrong csi"]++
		return
	}
	e := ansi.Event{Kind: ansi.Csi, Final: byte(final)}
	if parts[1] != "" {
		e.Private = parts[1][0]
	}
	if parts[3] != "" {
		e.Inter = parts[3][0]
	}
	if parts[2] != "" {
		for _, number := range strings.Split(parts[2], ";") {
			e.Params = append(e.Params, least(number))
		}
	}
	if len(e.Params) > 16 {
		m.seen["many numbers"]++
		return
	}
	m.put(e)
}

// least is a number, or 9999, if it is greater: the digits behind leading zeros tell.
func least(number string) int {
	number = strings.TrimLeft(number, "0")
	if len(number) > 4 {
		return 9999
	}
	n := 0
	for _, c := range number {
		n = 10*n + int(c-'0')
	}
	return n
}

func (m *model) osc() {
	var text []int32
	end := func() {
		if len(text) > 600 {
			m.seen["long text"]++
			return
		}
		m.put(ansi.Event{Kind: ansi.Osc, Text: string(text)})
	}
	marked := false
	for m.at < len(m.l) {
		p := m.next()
		switch {
		case p == 0x18 || p == 0x1A:
			m.seen["cancel in osc"]++
			return
		case p == 7:
			end()
			return
		case p == 0x1B:
			marked = true
		case p < 0x20:
			m.seen["control in osc"]++
		case marked && p == 0x5C:
			m.seen["two points end"]++
			end()
			return
		case marked:
			m.seen["osc broken off"]++
			m.at--
			m.escape()
			return
		default:
			text = append(text, p)
		}
	}
	m.closed = false
}

// borders are points about each of the document's borders, and such as are none.
var borders = []int32{0x00, 0x07, 0x08, 0x17, 0x18, 0x19, 0x1A, 0x1B, 0x1C, 0x1F, 0x20, 0x21, 0x2F, 0x30, 0x31, 0x39, 0x3A, 0x3B, 0x3C, 0x3D, 0x3F, 0x40, 0x41,
	0x5A, 0x5B, 0x5C, 0x5D, 0x5E, 0x7E, 0x7F, 0x80, 0x9B, 0xE4, 0x10FFFF, -1, 0xD800, 0xDFFF, 0x110000}

// points is a text's points.
func points(s string) []int32 { return []int32(s) }

func feed(t *testing.T, p *ansi.Parser, l []int32) []ansi.Event {
	t.Helper()
	events, e := p.Feed(l)
	if e != api.OK {
		t.Fatalf("Feed(%X): %v", l, e)
	}
	return events
}

// equal holds events against each other field by field, without Same.
func equal(a, b []ansi.Event) bool {
	return slices.EqualFunc(a, b, func(x, y ansi.Event) bool {
		return x.Kind == y.Kind && x.Point == y.Point && x.Private == y.Private && x.Inter == y.Inter && x.Final == y.Final && x.Text == y.Text && slices.Equal(x.Params, y.Params)
	})
}

func wantEvents(t *testing.T, l []int32, want []ansi.Event, idle bool) {
	t.Helper()
	p := ansi.New()
	if got := feed(t, p, l); !equal(got, want) || p.Idle() != idle {
		t.Fatalf("of %X (%q) comes %+v, idle %v, want %+v, %v", l, string(l), got, p.Idle(), want, idle)
	}
}

func printed(s string) []ansi.Event {
	var l []ansi.Event
	for _, p := range s {
		l = append(l, ansi.Event{Kind: ansi.Print, Point: p})
	}
	return l
}

func control(p int32) ansi.Event { return ansi.Event{Kind: ansi.Control, Point: p} }

func esc(inter, final byte) ansi.Event {
	return ansi.Event{Kind: ansi.Esc, Inter: inter, Final: final}
}

func csi(final byte, params ...int) ansi.Event {
	return ansi.Event{Kind: ansi.Csi, Final: final, Params: params}
}

func osc(text string) ansi.Event { return ansi.Event{Kind: ansi.Osc, Text: text} }

// with is a Csi that has more than its final and its numbers.
func with(e ansi.Event, private, inter byte) ansi.Event {
	e.Private, e.Inter = private, inter
	return e
}

// behind is what is printed of letters, behind events.
func behind(events []ansi.Event, s string) []ansi.Event {
	return append(slices.Clone(events), printed(s)...)
}

type example struct {
	s    string
	want []ansi.Event
}

// wantAll holds each example with a letter behind it, too, which must be printed alone.
func wantAll(t *testing.T, l []example) {
	t.Helper()
	for _, x := range l {
		wantEvents(t, points(x.s), x.want, true)
		wantEvents(t, points(x.s+"q"), behind(x.want, "q"), true)
	}
}

// P15.1: the document's example, and that kinds have its numbers.
func TestExample(t *testing.T) {
	wantEvents(t, []int32{0x1B, 0x5B, 0x31, 0x3B, 0x6D}, []ansi.Event{{Kind: 4, Final: 'm', Params: []int{1, 0}}}, true)
	if ansi.Print != 1 || ansi.Control != 2 || ansi.Esc != 3 || ansi.Csi != 4 || ansi.Osc != 5 {
		t.Error("kinds")
	}
}

// P15.1: what stands in Ground.
func TestGround(t *testing.T) {
	wantAll(t, []example{
		{"", nil}, {"aB ~", printed("aB ~")}, {"\u0080\u009b\u00e4\u20ac\U0001f600\U0010ffff", printed("\u0080\u009b\u00e4\u20ac\U0001f600\U0010ffff")},
		{"[]0;<?\\", printed("[]0;<?\\")}, {"\x7f", nil}, {"a\x7fb", printed("ab")}, {"\x18", nil}, {"\x1a", nil}, {"a\x18\x1ab", printed("ab")},
		{"\x00\x07\x1f", []ansi.Event{control(0), control(7), control(0x1F)}},
	})
	for p := int32(0); p < 0x20; p++ {
		switch p {
		case 0x18, 0x1A:
			wantEvents(t, []int32{p}, nil, true)
		case 0x1B:
			wantEvents(t, []int32{p}, nil, false)
		default:
			wantEvents(t, []int32{p}, []ansi.Event{control(p)}, true)
		}
	}
	for p := int32(0x20); p < 0x3000; p++ {
		if p != 0x7F {
			wantEvents(t, []int32{p}, []ansi.Event{{Kind: ansi.Print, Point: p}}, true)
		}
	}
}

// P15.1: a point that is none is nothing, wherever it stands.
func TestNoPoint(t *testing.T) {
	for _, bad := range []int32{-1, -0x41, math.MinInt32, math.MinInt32 + 0x41, 0xD800, 0xDABC, 0xDFFF, 0x110000, math.MaxInt32, 0x7F} {
		for _, x := range []struct {
			ahead, after string
			want         []ansi.Event
		}{
			{"a", "b", printed("ab")}, {"\x1b", "c", []ansi.Event{esc(0, 'c')}}, {"\x1b#", "8", []ansi.Event{esc('#', '8')}}, {"\x1b[", "?1h", []ansi.Event{with(csi('h', 1), '?', 0)}},
			{"\x1b[1", "2m", []ansi.Event{csi('m', 12)}}, {"\x1b]0;", "ab\x07", []ansi.Event{osc("0;ab")}}, {"\x1b]0;a\x1b", "\\", []ansi.Event{osc("0;a")}},
		} {
			wantEvents(t, append(append(points(x.ahead), bad, bad), points(x.after)...), x.want, true)
		}
		wantEvents(t, []int32{bad}, nil, true)
	}
}

// P15.1: what comes behind 1B.
func TestEscape(t *testing.T) {
	wantAll(t, []example{
		{"\x1bc", []ansi.Event{esc(0, 'c')}}, {"\x1b0", []ansi.Event{esc(0, '0')}}, {"\x1b~", []ansi.Event{esc(0, '~')}}, {"\x1b\\", []ansi.Event{esc(0, '\\')}},
		{"\x1b#8", []ansi.Event{esc('#', '8')}}, {"\x1b B", []ansi.Event{esc(' ', 'B')}}, {"\x1b/B", []ansi.Event{esc('/', 'B')}},
		// What is 5B or 5D behind a byte between is an end as all others.
		{"\x1b#[", []ansi.Event{esc('#', '[')}}, {"\x1b#]", []ansi.Event{esc('#', ']')}}, {"\x1b##[", nil}, {"\x1b##]", nil},
		// Two between: given up when it ends.
		{"\x1b##8", nil}, {"\x1b #8", nil}, {"\x1b###8", nil}, {"\x1b##\x078", []ansi.Event{control(7)}},
		// Controls are at once, and it goes on behind them.
		{"\x1b\x07c", []ansi.Event{control(7), esc(0, 'c')}}, {"\x1b#\x088", []ansi.Event{control(8), esc('#', '8')}}, {"\x1b\n[m", []ansi.Event{control(10), csi('m')}},
		{"\x1b\x1bc", []ansi.Event{esc(0, 'c')}}, {"\x1b#\x1bc", []ansi.Event{esc(0, 'c')}}, {"\x1b##\x1bc", []ansi.Event{esc(0, 'c')}},
		{"\x1b\u0080", printed("\u0080")}, {"\x1b#\u00e4", printed("\u00e4")}, {"\x1b##\U0001f600", printed("\U0001f600")},
		{"\x1b\x18c", printed("c")}, {"\x1b\x1a[m", printed("[m")}, {"\x1b#\x188", printed("8")}, {"\x1b#\x18\x1b8", []ansi.Event{esc(0, '8')}},
	})
	for _, s := range []string{"\x1b", "\x1b#", "\x1b##", "\x1b\x07", "\x1b\x7f"} {
		p := ansi.New()
		if feed(t, p, points(s)); p.Idle() {
			t.Errorf("behind %q it is idle", s)
		}
	}
}

// P15.1: numbers of a Csi.
func TestParams(t *testing.T) {
	fifteen, sixteen := strings.Repeat(";", 15), strings.Repeat(";", 16)
	all := make([]int, 16)
	wantAll(t, []example{
		{"\x1b[m", []ansi.Event{csi('m')}}, {"\x1b[0m", []ansi.Event{csi('m', 0)}}, {"\x1b[00m", []ansi.Event{csi('m', 0)}}, {"\x1b[;m", []ansi.Event{csi('m', 0, 0)}},
		{"\x1b[1;m", []ansi.Event{csi('m', 1, 0)}}, {"\x1b[;1m", []ansi.Event{csi('m', 0, 1)}}, {"\x1b[;;m", []ansi.Event{csi('m', 0, 0, 0)}}, {"\x1b[1;;3m", []ansi.Event{csi('m', 1, 0, 3)}},
		{"\x1b[0123456789m", []ansi.Event{csi('m', 9999)}}, {"\x1b[0123m", []ansi.Event{csi('m', 123)}}, {"\x1b[38;5;196m", []ansi.Event{csi('m', 38, 5, 196)}},
		{"\x1b[9998m", []ansi.Event{csi('m', 9998)}}, {"\x1b[9999m", []ansi.Event{csi('m', 9999)}}, {"\x1b[10000m", []ansi.Event{csi('m', 9999)}}, {"\x1b[10000000m", []ansi.Event{csi('m', 9999)}},
		{"\x1b[" + strings.Repeat("9", 5000) + ";2m", []ansi.Event{csi('m', 9999, 2)}}, {"\x1b[" + strings.Repeat("0", 5000) + "12m", []ansi.Event{csi('m', 12)}},
		{"\x1b[" + fifteen + "m", []ansi.Event{csi('m', all...)}}, {"\x1b[" + sixteen + "m", nil}, {"\x1b[1" + sixteen + "m", nil}, {"\x1b[" + strings.Repeat(";", 5000) + "1m", nil},
		{"\x1b[1;2;3;4;5;6;7;8;9;10;11;12;13;14;15;16m", []ansi.Event{csi('m', 1, 2, 3, 4, 5, 6, 7, 8, 9, 10, 11, 12, 13, 14, 15, 16)}}, {"\x1b[1;2;3;4;5;6;7;8;9;10;11;12;13;14;15;16;17m", nil},
	})
}

// P15.1: what else stands in a Csi, and what it is given up for.
func TestCsi(t *testing.T) {
	wantAll(t, []example{
		{"\x1b[@", []ansi.Event{csi('@')}}, {"\x1b[~", []ansi.Event{csi('~')}}, {"\x1b[[", []ansi.Event{csi('[')}}, {"\x1b[]", []ansi.Event{csi(']')}},
		{"\x1b[?25h", []ansi.Event{with(csi('h', 25), '?', 0)}}, {"\x1b[<m", []ansi.Event{with(csi('m'), '<', 0)}}, {"\x1b[=1m", []ansi.Event{with(csi('m', 1), '=', 0)}}, {"\x1b[>;m", []ansi.Event{with(csi('m', 0, 0), '>', 0)}},
		{"\x1b[!p", []ansi.Event{with(csi('p'), 0, '!')}}, {"\x1b[2 q", []ansi.Event{with(csi('q', 2), 0, ' ')}}, {"\x1b[?1;2/p", []ansi.Event{with(csi('p', 1, 2), '?', '/')}}, {"\x1b[?$p", []ansi.Event{with(csi('p'), '?', '$')}},
		// Given up: what must be first is not; two of them; a colon; two between; numbers behind one between.
		{"\x1b[1?h", nil}, {"\x1b[;?h", nil}, {"\x1b[??h", nil}, {"\x1b[<>h", nil}, {"\x1b[ ?h", nil}, {"\x1b[!<h", nil}, {"\x1b[?1?h", nil},
		{"\x1b[:h", nil}, {"\x1b[1:2m", nil}, {"\x1b[4:m", nil}, {"\x1b[?:h", nil}, {"\x1b[!:h", nil}, {"\x1b[:?h", nil}, {"\x1b[:1;2 m", nil},
		{"\x1b[!!p", nil}, {"\x1b[! p", nil}, {"\x1b[1!1p", nil}, {"\x1b[!1p", nil}, {"\x1b[!;p", nil}, {"\x1b[1!;p", nil}, {"\x1b[?!0p", nil},
		// It is given up when it ends, not ahead of that.
		{"\x1b[:\x07h", []ansi.Event{control(7)}}, {"\x1b[1?\x1b[2m", []ansi.Event{csi('m', 2)}}, {"\x1b[!!\u00e4", printed("\u00e4")},
		// Controls are at once, and are not of it.
		{"\x1b[\x071;\r2m", []ansi.Event{control(7), control(13), csi('m', 1, 2)}}, {"\x1b[\x08?1h", []ansi.Event{control(8), with(csi('h', 1), '?', 0)}}, {"\x1b[1\n2 \x00q", []ansi.Event{control(10), control(0), with(csi('q', 12), 0, ' ')}},
		{"\x1b[1;2\x1b[3m", []ansi.Event{csi('m', 3)}}, {"\x1b[?1!\x1b[m", []ansi.Event{csi('m')}}, {"\x1b[1\x1bc", []ansi.Event{esc(0, 'c')}}, {"\x1b[!\x1bc", []ansi.Event{esc(0, 'c')}}, {"\x1b[1\x1b]2\x07", []ansi.Event{osc("2")}},
		{"\x1b[1\u0080m", printed("\u0080m")}, {"\x1b[\u20ac", printed("\u20ac")}, {"\x1b[1;\x18m", printed("m")}, {"\x1b[?\x1am", printed("m")}, {"\x1b[?1!\x18\x1b[m", []ansi.Event{csi('m')}},
		// What comes next is empty at first.
		{"\x1b[?1;2!p\x1b[m\x1bc", []ansi.Event{with(csi('p', 1, 2), '?', '!'), csi('m'), esc(0, 'c')}}, {"\x1b[:m\x1b[m", []ansi.Event{csi('m')}}, {"\x1b#8\x1b[m\x1b8", []ansi.Event{esc('#', '8'), csi('m'), esc(0, '8')}},
	})
	for _, s := range []string{"\x1b[", "\x1b[1", "\x1b[?", "\x1b[ ", "\x1b[:", "\x1b[1\x07", "\x1b[\x1b"} {
		p := ansi.New()
		if feed(t, p, points(s)); p.Idle() {
			t.Errorf("behind %q it is idle", s)
		}
	}
}

// P15.1: a text of the system.
func TestOsc(t *testing.T) {
	wantAll(t, []example{
		{"\x1b]\x07", []ansi.Event{osc("")}}, {"\x1b]\x1b\\", []ansi.Event{osc("")}}, {"\x1b]0;ab\x07", []ansi.Event{osc("0;ab")}}, {"\x1b]0;ab\x1b\\", []ansi.Event{osc("0;ab")}},
		{"\x1b]2;\u00e4\u0080\u20ac\U0001f600\x07", []ansi.Event{osc("2;\u00e4\u0080\u20ac\U0001f600")}}, {"\x1b] ~[]\\\x07", []ansi.Event{osc(" ~[]\\")}},
		// Controls are nothing in it, marked or not.
		{"\x1b]a\x00b\nc\x1fd\x19\x07", []ansi.Event{osc("abcd")}}, {"\x1b]a\x1b\n\\", []ansi.Event{osc("a")}}, {"\x1b]a\x1b\x1b\\", []ansi.Event{osc("a")}}, {"\x1b]a\x1b\x07", []ansi.Event{osc("a")}}, {"\x1b]a\x1b\x00\x1b\x1f\x07", []ansi.Event{osc("a")}},
		{"\x1b]a\x7fb\x07", []ansi.Event{osc("ab")}},
		// Behind any other one it is given up, and the point goes in as behind 1B.
		{"\x1b]a\x1bc", []ansi.Event{esc(0, 'c')}}, {"\x1b]a\x1b[1m", []ansi.Event{csi('m', 1)}}, {"\x1b]a\x1b]b\x07", []ansi.Event{osc("b")}}, {"\x1b]a\x1b#8", []ansi.Event{esc('#', '8')}}, {"\x1b]a\x1b##8", nil},
		{"\x1b]a\x1b\u00e4", printed("\u00e4")}, {"\x1b]a\x1b\u0080\\", printed("\u0080\\")}, {"\x1b]a\x1b\nc", []ansi.Event{esc(0, 'c')}}, {"\x1b]a\x1b0", []ansi.Event{esc(0, '0')}}, {"\x1b]a\x1b~", []ansi.Event{esc(0, '~')}},
		{"\x1b]a\x1bcb\x07", []ansi.Event{esc(0, 'c'), {Kind: ansi.Print, Point: 'b'}, control(7)}},
		{"\x1b]a\x18b\x07", append(printed("b"), control(7))}, {"\x1b]a\x1b\x18\\", printed("\\")}, {"\x1b]a\x1a\x07", []ansi.Event{control(7)}},
		// A new text is empty, and is not marked.
		{"\x1b]a\x07\x1b]b\x07", []ansi.Event{osc("a"), osc("b")}}, {"\x1b]a\x1b\\\x1b]\\\x07", []ansi.Event{osc("a"), osc("\\")}}, {"\x1b]a\x1b]\\\x07", []ansi.Event{osc("\\")}},
	})
	for _, s := range []string{"\x1b]", "\x1b]0;a", "\x1b]a\x1b", "\x1b]a\n", "\x1b]a\x1b]", "\x1b]a\x1b[", "\x1b]a\x1b#", "\x1b]" + strings.Repeat("a", 601)} {
		p := ansi.New()
		if feed(t, p, points(s)); p.Idle() {
			t.Errorf("behind %q it is idle", s)
		}
	}
}

// P15.1: a text has at most 600 points, not bytes; a longer one is given up when it ends.
func TestLongOsc(t *testing.T) {
	for _, letter := range []string{"a", "\u00e4", "\U0001f600"} {
		whole := strings.Repeat(letter, 600)
		for _, end := range []string{"\x07", "\x1b\\"} {
			wantAll(t, []example{
				{"\x1b]" + whole + end, []ansi.Event{osc(whole)}}, {"\x1b]" + whole[len(letter):] + end, []ansi.Event{osc(whole[len(letter):])}},
				{"\x1b]" + whole + "b" + end, nil}, {"\x1b]" + whole + whole + end, nil}, {"\x1b]" + strings.Repeat(whole, 20) + end, nil},
				// What is nothing does not make it longer.
				{"\x1b]" + whole + "\n\x00\x7f" + end, []ansi.Event{osc(whole)}},
				// What comes behind is not given up.
				{"\x1b]" + whole + "b" + end + "\x1b]c" + end, []ansi.Event{osc("c")}}, {"\x1b]" + whole + "b" + end + "\x1b[m\x1bc", []ansi.Event{csi('m'), esc(0, 'c')}},
			})
		}
		wantAll(t, []example{
			{"\x1b]" + whole + "b\x1bc", []ansi.Event{esc(0, 'c')}}, {"\x1b]" + whole + "b\x1b[m", []ansi.Event{csi('m')}}, {"\x1b]" + whole + "b\x1b]d\x07", []ansi.Event{osc("d")}},
			{"\x1b]" + whole + "b\x18d", printed("d")}, {"\x1b]" + whole + "b\x1b\u00e4", printed("\u00e4")},
		})
	}
}

// starts are texts behind each of which a parser stands in another place.
var starts = []string{"", "\x1b", "\x1b#", "\x1b##", "\x1b[", "\x1b[1", "\x1b[;", "\x1b[?", "\x1b[!", "\x1b[:", "\x1b[1" + strings.Repeat(";", 15), "\x1b[9999",
	"\x1b]", "\x1b]0;a", "\x1b]a\x1b", "\x1b]" + strings.Repeat("a", 599), "\x1b]" + strings.Repeat("a", 600), "\x1b]" + strings.Repeat("a", 601)}

// P15.1: each point, and all twos and threes at the borders, wherever a parser stands, held against the document's words.
func TestBorders(t *testing.T) {
	hold := func(l []int32) {
		t.Helper()
		m := worded(l)
		wantEvents(t, l, m.events, m.closed)
	}
	for _, start := range starts {
		ahead := points(start)
		ahead = ahead[:len(ahead):len(ahead)]
		for p := int32(-2); p < 0x120; p++ {
			hold(append(ahead, p))
			hold(append(ahead, p, 'm', 7))
		}
		for _, a := range borders {
			for _, b := range borders {
				hold(append(ahead, a, b))
				hold(append(ahead, a, b, '\\', 'h'))
			}
		}
	}
	if testing.Short() {
		return
	}
	for _, start := range starts[:15] {
		ahead := points(start)
		ahead = ahead[:len(ahead):len(ahead)]
		for _, a := range borders {
			for _, b := range borders {
				for _, c := range borders {
					hold(append(ahead, a, b, c))
				}
			}
		}
	}
}

// mixed is points of which many make sequences, and many are at the borders.
func mixed(r *rand.Rand, n int) []int32 {
	var l []int32
	for len(l) < n {
		switch r.Intn(12) {
		case 0:
			l = append(l, borders[r.Intn(len(borders))])
		case 1:
			l = append(l, int32(r.Intn(0x90)))
		case 2:
			l = append(l, points(starts[r.Intn(15)])...)
		case 3:
			l = append(l, 0x1B, '[')
		case 4:
			l = append(l, 0x1B, ']')
		case 5:
			l = append(l, 0x1B)
		case 6:
			l = append(l, points("mhHJ\\\a")[r.Intn(6)])
		case 7:
			l = append(l, int32(r.Intn(0x20000)))
		case 8:
			l = append(l, 0x1B, '[')
			for range 10 + r.Intn(10) {
				l = append(l, ';')
			}
		case 9:
			l = append(l, 0x1B, ']')
			for range r.Intn(10) + r.Intn(4)/3*595 {
				l = append(l, int32('a'+r.Intn(26)))
			}
			l = append(l, points("\a\x1b")[r.Intn(2)])
		default:
			l = append(l, points("0123456789;?: #!")[r.Intn(16)])
		}
	}
	return l
}

// P15.1 and P15.2: in whatever pieces points come, the events are the same, and those that the document words.
func TestPieces(t *testing.T) {
	r := rand.New(rand.NewSource(15))
	seen := map[string]int{}
	kinds := [6]int{}
	for range 12000 {
		l := mixed(r, r.Intn(60))
		m := worded(l)
		wantEvents(t, l, m.events, m.closed)
		p := ansi.New()
		var got []ansi.Event
		for at := 0; at < len(l); {
			n := min(r.Intn(5), len(l)-at)
			got = append(got, feed(t, p, l[at:at+n])...)
			at += n
			if r.Intn(16) == 0 {
				part := worded(l[:at])
				if !equal(got, part.events) || p.Idle() != part.closed {
					t.Fatalf("of %X comes %+v, idle %v, want %+v, %v", l[:at], got, p.Idle(), part.events, part.closed)
				}
			}
		}
		if !equal(got, m.events) || p.Idle() != m.closed {
			t.Fatalf("in pieces of %X comes %+v, idle %v, want %+v, %v", l, got, p.Idle(), m.events, m.closed)
		}
		for k, n := range m.seen {
			seen[k] += n
		}
		for _, e := range got {
			kinds[e.Kind]++
		}
	}
	for _, k := range []string{"cancel in ground", "cancel in escape", "cancel in csi", "cancel in osc", "escape in escape", "escape in csi", "control in escape", "control in csi", "control in osc",
		"wide in escape", "wide in csi", "two between", "wrong csi", "many numbers", "long text", "two points end", "osc broken off"} {
		if seen[k] < 50 {
			t.Errorf("%s: met %d times alone", k, seen[k])
		}
	}
	for kind, n := range kinds[1:] {
		if n < 500 {
			t.Errorf("events of the kind %d: %d alone", kind+1, n)
		}
	}
}

// P15.3: behind 18 it is in Ground, and what follows is as from a new one; so it is behind 1A.
func TestCancel(t *testing.T) {
	r := rand.New(rand.NewSource(153))
	for range 3000 {
		for _, stop := range []int32{0x18, 0x1A} {
			p := ansi.New()
			feed(t, p, mixed(r, r.Intn(40)))
			if l := feed(t, p, []int32{stop}); len(l) != 0 || !p.Idle() {
				t.Fatalf("%X: %+v, idle %v", stop, l, p.Idle())
			}
			next := mixed(r, r.Intn(40))
			wantEvents(t, next, feed(t, p, next), p.Idle())
		}
	}
}

// P15.1: of nil, and of one that no call made.
func TestNoParser(t *testing.T) {
	var none *ansi.Parser
	var zero ansi.Parser
	held := struct{ ansi.Parser }{}
	for i, p := range []*ansi.Parser{none, &zero, new(ansi.Parser), {}, &held.Parser} {
		for range 2 {
			for _, l := range [][]int32{nil, {}, {'A'}, {0x1B}, {0x18}, {-1}, points("\x1b[m\x1b]0\x07")} {
				if events, e := p.Feed(l); e != api.ErrNil || len(events) != 0 {
					t.Errorf("%d: Feed(%X) = %+v, %v", i, l, events, e)
				}
				if p.Idle() {
					t.Errorf("%d: it is idle", i)
				}
			}
		}
	}
	p := ansi.New()
	if events, e := p.Feed(nil); e != api.OK || len(events) != 0 || !p.Idle() {
		t.Errorf("a new one: %+v, %v", events, e)
	}
}

// P15.1: Same is of each field; a list of no numbers may be nil or empty.
func TestSame(t *testing.T) {
	full := ansi.Event{Kind: 4, Point: 'a', Private: '?', Inter: '!', Final: 'm', Params: []int{1, 2, 3}, Text: "text"}
	other := full
	other.Params = slices.Clone(full.Params)
	if !ansi.Same(full, full) || !ansi.Same(full, other) || !ansi.Same(ansi.Event{}, ansi.Event{}) {
		t.Error("equal ones are not the same")
	}
	if !ansi.Same(ansi.Event{Kind: 4, Params: []int{}}, ansi.Event{Kind: 4}) || !ansi.Same(ansi.Event{Kind: 4}, ansi.Event{Kind: 4, Params: []int{}}) {
		t.Error("no numbers, nil or empty")
	}
	for i, change := range []func(e *ansi.Event){
		func(e *ansi.Event) { e.Kind = 5 }, func(e *ansi.Event) { e.Kind = -4 }, func(e *ansi.Event) { e.Point = 'b' }, func(e *ansi.Event) { e.Private = 0 }, func(e *ansi.Event) { e.Inter = ' ' },
		func(e *ansi.Event) { e.Final = 'M' }, func(e *ansi.Event) { e.Params = nil }, func(e *ansi.Event) { e.Params = []int{1, 2} }, func(e *ansi.Event) { e.Params = []int{1, 2, 3, 0} },
		func(e *ansi.Event) { e.Params = []int{3, 2, 1} }, func(e *ansi.Event) { e.Params = []int{1, 2, 4} }, func(e *ansi.Event) { e.Text = "Text" }, func(e *ansi.Event) { e.Text = "" },
	} {
		changed := full
		change(&changed)
		if ansi.Same(full, changed) || ansi.Same(changed, full) || !ansi.Same(changed, changed) {
			t.Errorf("%d: %+v", i, changed)
		}
	}
	// What lies behind a list's length does not count.
	if !ansi.Same(ansi.Event{Params: []int{1, 2}[:1]}, ansi.Event{Params: []int{1, 3}[:1]}) {
		t.Error("what is behind the length counts")
	}
}

// Rule 3: each field that the document does not name for a kind is zero.
func TestFields(t *testing.T) {
	wantEvents(t, points("\x1b[?1;2!p\x1b]0;a\x07\x1b#8\x07q\x1bc"), []ansi.Event{
		{Kind: ansi.Csi, Private: '?', Inter: '!', Final: 'p', Params: []int{1, 2}}, {Kind: ansi.Osc, Text: "0;a"}, {Kind: ansi.Esc, Inter: '#', Final: '8'},
		{Kind: ansi.Control, Point: 7}, {Kind: ansi.Print, Point: 'q'}, {Kind: ansi.Esc, Final: 'c'},
	}, true)
}

// Rules 4 and 5: what is handed in is neither changed nor kept nor read behind its length, and what is handed out is new.
func TestMemory(t *testing.T) {
	held := points("\x1b[1;2m\x1b]ab\x07\x1b[3;4h")
	saved := slices.Clone(held)
	p := ansi.New()
	if l := feed(t, p, held[:4]); len(l) != 0 || p.Idle() {
		t.Fatalf("Feed read behind the length: %+v", l)
	}
	clear(held)
	first := feed(t, p, saved[4:])
	want := []ansi.Event{csi('m', 1, 2), osc("ab"), csi('h', 3, 4)}
	if !equal(first, want) {
		t.Fatalf("what was handed in was kept: %+v", first)
	}
	if !slices.Equal(saved, points("\x1b[1;2m\x1b]ab\x07\x1b[3;4h")) {
		t.Error("what was handed in was changed")
	}
	// No list of an answer shares memory with another one, nor with the parser.
	feed(t, p, points("\x1b[7;8"))
	first[0].Params[0], first[0].Params[1] = 50, 60
	for i := range first[0].Params[:cap(first[0].Params)] {
		first[0].Params[:cap(first[0].Params)][i] = 70
	}
	if !slices.Equal(first[2].Params, []int{3, 4}) {
		t.Errorf("numbers share memory: %v", first[2].Params)
	}
	second := feed(t, p, points("m"))
	if !equal(second, []ansi.Event{csi('m', 7, 8)}) {
		t.Errorf("the parser shares what was handed out: %+v", second)
	}
	second[0].Params[0] = 99
	if third := feed(t, p, points("\x1b[7;8m\x1b[m")); !equal(third, []ansi.Event{csi('m', 7, 8), csi('m')}) || second[0].Params[1] != 8 {
		t.Errorf("behind a change of what was handed out: %+v", third)
	}
}

// Two parsers do not know of each other, and the same calls are answered the same.
func TestSideBySide(t *testing.T) {
	a, b, c := ansi.New(), ansi.New(), ansi.New()
	feed(t, a, points("\x1b[1"))
	feed(t, b, points("\x1b]x"))
	if l := feed(t, c, points("2m")); !equal(l, printed("2m")) || !c.Idle() || a.Idle() || b.Idle() {
		t.Errorf("c: %+v", l)
	}
	if l := feed(t, a, points("2m")); !equal(l, []ansi.Event{csi('m', 12)}) {
		t.Errorf("a: %+v", l)
	}
	if l := feed(t, b, points("2m\x07")); !equal(l, []ansi.Event{osc("x2m")}) {
		t.Errorf("b: %+v", l)
	}
	r := rand.New(rand.NewSource(157))
	for range 200 {
		l := mixed(r, 50)
		one, other := feed(t, ansi.New(), l), feed(t, ansi.New(), l)
		if !equal(one, other) {
			t.Fatalf("of %X comes %+v, and %+v", l, one, other)
		}
		for i := range one {
			if !ansi.Same(one[i], other[i]) {
				t.Fatalf("%+v and %+v are not the same", one[i], other[i])
			}
		}
	}
}
