package osc_test

import (
	"encoding/base64"
	"math"
	"math/rand"
	"regexp"
	"slices"
	"strings"
	"testing"
	"unicode/utf8"

	"longline/api"
	"longline/osc"
)

// titleForm and clipForm are the forms of texts of the system, as the document words them.
var (
	titleForm = regexp.MustCompile(`(?s)^[02];(.*)$`)
	clipForm  = regexp.MustCompile(`(?s)^52;[cpsq0-9]*;(.*)$`)
)

// wordedCut looks at all beginnings of a text, the longest first.
func wordedCut(s string, most int) string {
	if len(s) <= most {
		return s
	}
	for n := min(most, len(s)-1); n >= 1; n-- {
		if next := s[n]; next < 0x80 || next >= 0xC0 {
			return s[:n]
		}
	}
	return ""
}

// wordedRead is what a text asks for, as the document words it.
func wordedRead(s string) (osc.Ask, api.Errno) {
	if m := titleForm.FindStringSubmatch(s); m != nil {
		return osc.Ask{Kind: 1, Data: wordedCut(m[1], 64)}, api.OK
	}
	if !strings.HasPrefix(s, "52;") {
		return osc.Ask{}, api.ErrNone
	}
	m := clipForm.FindStringSubmatch(s)
	if m == nil {
		return osc.Ask{}, api.ErrForm
	}
	b, e := base64.StdEncoding.Strict().DecodeString(m[1])
	switch {
	case e != nil || strings.ContainsAny(m[1], "\r\n"):
		return osc.Ask{}, api.ErrForm
	case len(b) > 256:
		return osc.Ask{}, api.ErrLong
	}
	return osc.Ask{Kind: 2, Data: string(b)}, api.OK
}

// wordedWrite is the text of what is asked for, as the document words it.
func wordedWrite(a osc.Ask) (string, api.Errno) {
	if a.Kind == 1 && len(a.Data) <= 64 {
		return "2;" + a.Data, api.OK
	}
	if a.Kind == 2 && len(a.Data) <= 256 {
		return "52;c;" + base64.StdEncoding.EncodeToString([]byte(a.Data)), api.OK
	}
	if a.Kind == 2 {
		return "", api.ErrLong
	}
	return "", api.ErrForm
}

func wantRead(t *testing.T, s string, want osc.Ask, e api.Errno) {
	t.Helper()
	if a, got := osc.Read(s); a != want || got != e {
		t.Fatalf("Read(%.90q), of %d bytes: %+v, %v; want %+v, %v", s, len(s), a, got, want, e)
	}
}

func wantWrite(t *testing.T, a osc.Ask, want string, e api.Errno) {
	t.Helper()
	if s, got := osc.Write(a); s != want || got != e {
		t.Fatalf("Write(%+v): %.90q, %v; want %.90q, %v", a, s, got, want, e)
	}
}

func letters(s string) string { return base64.StdEncoding.EncodeToString([]byte(s)) }

func title(s string) osc.Ask { return osc.Ask{Kind: osc.Title, Data: s} }

func clip(s string) osc.Ask { return osc.Ask{Kind: osc.Clip, Data: s} }

// P18.1: a text's beginning.
func TestCut(t *testing.T) {
	const a, euro, smile = "\u00e4", "\u20ac", "\U0001F600"
	for _, x := range []struct {
		s    string
		most int
		want string
	}{
		{"", 0, ""}, {"", 1, ""}, {"", -1, ""}, {"", math.MinInt, ""}, {"", math.MaxInt, ""},
		{"abc", 3, "abc"}, {"abc", 4, "abc"}, {"abc", math.MaxInt, "abc"}, {"abc", 2, "ab"}, {"abc", 1, "a"}, {"abc", 0, ""}, {"abc", -1, ""}, {"abc", math.MinInt, ""},
		// Points of two, three and four bytes are not cut apart.
		{a + a, 4, a + a}, {a + a, 3, a}, {a + a, 2, a}, {a + a, 1, ""}, {"x" + a, 2, "x"}, {"x" + a, 3, "x" + a},
		{euro + euro, 5, euro}, {euro + euro, 4, euro}, {euro + euro, 3, euro}, {euro + euro, 2, ""}, {euro + euro, 1, ""}, {smile + smile, 7, smile}, {smile + smile, 5, smile}, {smile + smile, 4, smile}, {smile + smile, 3, ""}, {smile + "a", 4, smile}, {"a" + smile, 4, "a"}, {"a" + smile, 5, "a" + smile},
		// What is behind counts alone, not what is ahead.
		{"a\xc3b", 2, "a\xc3"}, {"\xc3\xc3\xc3", 2, "\xc3\xc3"}, {"\xc3\xc3\xa4", 2, "\xc3"}, {"ab\x80", 2, "a"}, {"ab\xbf", 2, "a"}, {"ab\xc0", 2, "ab"}, {"ab\x7f", 2, "ab"}, {"ab\xff", 2, "ab"}, {"ab\x00", 2, "ab"},
		// Bytes that follow alone: the text as it is, if it has no more, else nothing of it.
		{"\x80\x80\x80", 3, "\x80\x80\x80"}, {"\x80\x80\x80", 2, ""}, {"\xbf\xbf", 1, ""}, {"\x80\x80\x80", 1, ""}, {"\x80a\x80", 2, "\x80"}, {"\x80a\x80", 1, "\x80"}, {"a\x80\x80\x80\x80", 4, ""}, {"a\x80\x80\x80\x80", 5, "a\x80\x80\x80\x80"}, {"aa\x80\x80\x80\x80", 4, "a"},
	} {
		if got := osc.Cut(x.s, x.most); got != x.want || wordedCut(x.s, x.most) != x.want {
			t.Errorf("Cut(%q, %d) = %q, want %q", x.s, x.most, got, x.want)
		}
	}
}

// P18.1: each byte that may stand behind a beginning.
func TestCutBytes(t *testing.T) {
	for c := range 256 {
		want := "ab"
		if c >= 0x80 && c <= 0xBF {
			want = "a"
		}
		if got := osc.Cut("ab"+string([]byte{byte(c)}), 2); got != want {
			t.Errorf("ahead of %X: %q", c, got)
		}
	}
}

// pieces are texts of which a longer one is put together.
var pieces = []string{"a", "b", ";", "\x00", "\x1b", "\u00e4", "\u20ac", "\U0001F600", "\x80", "\xbf", "\xc3", "\xe2\x82", "\xff", " "}

func puzzle(r *rand.Rand, n int) string {
	var b strings.Builder
	for range n {
		b.WriteString(pieces[r.Intn(len(pieces))])
	}
	return b.String()
}

// P18.1: all texts by chance, with each most.
func TestCutRandom(t *testing.T) {
	r := rand.New(rand.NewSource(181))
	whole, shorter := 0, 0
	for range 3000 {
		s := puzzle(r, r.Intn(20))
		for most := -2; most < len(s)+3; most++ {
			got, want := osc.Cut(s, most), wordedCut(s, most)
			if got != want {
				t.Fatalf("Cut(%q, %d) = %q, want %q", s, most, got, want)
			}
			if most > 0 && len(got) == min(most, len(s)) {
				whole++
			} else if most > 0 {
				shorter++
			}
		}
	}
	if whole < 1000 || shorter < 1000 {
		t.Errorf("%d were whole, %d shorter", whole, shorter)
	}
}

// P18.1: titles.
func TestTitle(t *testing.T) {
	long := strings.Repeat("x", 63)
	for _, x := range []struct{ behind, want string }{
		{"", ""}, {"a", "a"}, {"a title", "a title"}, {";", ";"}, {";;a;b", ";;a;b"}, {"0;2;52;c;TWE=", "0;2;52;c;TWE="}, {"\x00\n\x1b\x07", "\x00\n\x1b\x07"}, {"\u00e4\u20ac\U0001F600", "\u00e4\u20ac\U0001F600"}, {"\xff\x80", "\xff\x80"},
		{long + "y", long + "y"}, {long + "yz", long + "y"}, {long + "y\xff", long + "y"}, {long + "\u00e4", long}, {long + "yz" + long, long + "y"}, {long + "y\u00e4", long + "y"}, {long[1:] + "\u20ac", long[1:]}, {long[2:] + "\U0001F600", long[2:]}, {long[3:] + "\U0001F600", long[3:] + "\U0001F600"},
		{strings.Repeat("\u00e4", 32), strings.Repeat("\u00e4", 32)}, {strings.Repeat("\u00e4", 33), strings.Repeat("\u00e4", 32)}, {strings.Repeat("\u20ac", 22), strings.Repeat("\u20ac", 21)}, {strings.Repeat("\u20ac", 1000), strings.Repeat("\u20ac", 21)}, {strings.Repeat("\x80", 64), strings.Repeat("\x80", 64)}, {strings.Repeat("\x80", 65), ""},
		{strings.Repeat("x", 1<<20), long + "x"},
	} {
		for _, begin := range []string{"0;", "2;"} {
			wantRead(t, begin+x.behind, title(x.want), api.OK)
		}
	}
}

// P18.1: what asks for nothing.
func TestNone(t *testing.T) {
	for _, s := range []string{
		"", "0", "2", "5", "52", ";", ";0;", "1;a", "3;a", "4;a", "5;a", "5;2;", "9;a", "00;a", "02;a", "20;a", "22;a", "052;c;TWE=", "520;c;TWE=", "53;c;TWE=", "51;c;TWE=", "552;c;TWE=", "5 2;c;TWE=", "25;a", "-0;a", "+2;a", " 0;a", "0 ;a", "2 ;a", "\x000;a", "0:a", "2:a", "52:c;TWE=", "a;0;b", "title", "a;b", "0\u037ea", "\u0660;a", "\xff;a", "\x80", "l;a", "L0;a", strings.Repeat("0", 1000), strings.Repeat("2", 1000) + ";a",
	} {
		wantRead(t, s, osc.Ask{}, api.ErrNone)
	}
	// Each first byte, and each second one.
	for c := range 256 {
		for _, s := range []string{string([]byte{byte(c)}) + ";a", "0" + string([]byte{byte(c)}) + "a", "52" + string([]byte{byte(c)}) + "c;TWE="} {
			want, e := wordedRead(s)
			wantRead(t, s, want, e)
		}
	}
}

// P18.1: clippings.
func TestClip(t *testing.T) {
	for _, s := range []string{"", "M", "Ma", "Man", "Many", "\x00\xff", "\u00e4", strings.Repeat("x", 254), strings.Repeat("x", 255), strings.Repeat("x", 256)} {
		for _, where := range []string{"", "c", "p", "s", "q", "0", "7", "8", "9", "cpsq0123456789", "cccc", strings.Repeat("s0", 500)} {
			wantRead(t, "52;"+where+";"+letters(s), clip(s), api.OK)
		}
	}
	// What is no letter, nor a digit, among them: each byte, first, and behind one.
	for c := range 256 {
		where := string([]byte{byte(c)})
		want := api.ErrForm
		if strings.Contains("cpsq0123456789", where) {
			want = api.OK
		}
		for _, where := range []string{where, "c" + where, where + "0"} {
			a, e := osc.Read("52;" + where + ";TWE=")
			if e != want || e == api.OK && a != clip("Ma") || e != api.OK && a != (osc.Ask{}) {
				t.Errorf("%q: %+v, %v, want %v", where, a, e, want)
			}
		}
	}
}

// P18.1: clippings that are none, or too long.
func TestClipFaults(t *testing.T) {
	for _, s := range []string{
		// No ; follows.
		"52;", "52;c", "52;cpsq", "52;0", "52;TWE=", "52;cTWE=", "52;c:TWE=", "52;c TWE=", "52;c ;TWE=", "52; c;TWE=", "52;C;TWE=", "52;x;TWE=", "52;r;TWE=", "52;cx;TWE=", "52;\u00e4;TWE=", "52;c\u0660;TWE=", "52;\x80;", "52;\xff;", "52;/;TWE=", "52;:;TWE=", "52;" + strings.Repeat("c", 100000),
		// No bytes' letters.
		"52;c;?", "52;;?", "52;c;T", "52;c;TWE", "52;c;TQ=", "52;c;TWF=", "52;c;TR==", "52;c;TWE=\n", "52;c; TWE=", "52;c;TWE=;", "52;c;;TWE=", "52;c;TWE=TWE=", "52;c;====", "52;;;", "52;c;\u00e4", "52;c;\x80\x80\x80\x80", "52;c;52;c;TWE=",
	} {
		wantRead(t, s, osc.Ask{}, api.ErrForm)
	}
	for _, n := range []int{257, 258, 259, 260, 300, 512, 65536, 65537, 67500, 67501, 70000, 200000} {
		s := letters(strings.Repeat("x", n))
		wantRead(t, "52;c;"+s, osc.Ask{}, api.ErrLong)
		wantRead(t, "52;;"+s, osc.Ask{}, api.ErrLong)
		// What is none comes first, though it is too long.
		wantRead(t, "52;c;"+s+"?", osc.Ask{}, api.ErrForm)
		wantRead(t, "52;c;"+s[:len(s)-1], osc.Ask{}, api.ErrForm)
		wantRead(t, "52;c;!"+s[1:], osc.Ask{}, api.ErrForm)
		wantRead(t, "52;x;"+s, osc.Ask{}, api.ErrForm)
	}
}

// P18.2: what is asked for, as a text.
func TestWrite(t *testing.T) {
	long := strings.Repeat("x", 64)
	for _, s := range []string{"", "a", "0;a", ";", "a title", "\u00e4", "\x00\x1b\xff", long, long[2:] + "\u00e4", long[1:] + "\xc3", strings.Repeat("\x80", 64)} {
		wantWrite(t, title(s), "2;"+s, api.OK)
	}
	for _, s := range []string{long + "x", long + "\x80", long + "\u00e4", long[1:] + "\u00e4", long + long, strings.Repeat("\x80", 65), strings.Repeat("x", 1<<20)} {
		wantWrite(t, title(s), "", api.ErrForm)
	}
	for _, s := range []string{"", "M", "Ma", "Man", "\x00\xff\x80", long + long, strings.Repeat("x", 255), strings.Repeat("\xff", 256)} {
		wantWrite(t, clip(s), "52;c;"+letters(s), api.OK)
	}
	for _, s := range []string{strings.Repeat("x", 257), strings.Repeat("\u00e4", 129), strings.Repeat("x", 1<<20)} {
		wantWrite(t, clip(s), "", api.ErrLong)
	}
	for _, kind := range []int{0, 3, 4, -1, -2, 52, 257, 1 << 32, 1<<32 + 1, 1<<32 + 2, math.MaxInt, math.MinInt, math.MinInt + 1, math.MinInt + 2} {
		for _, s := range []string{"", "a", long, strings.Repeat("x", 257)} {
			wantWrite(t, osc.Ask{Kind: kind, Data: s}, "", api.ErrForm)
		}
	}
	if osc.Title != 1 || osc.Clip != 2 {
		t.Errorf("the kinds are %d and %d", osc.Title, osc.Clip)
	}
}

// P18.3, P2: what is written is read as it was.
func TestThereAndBack(t *testing.T) {
	r := rand.New(rand.NewSource(183))
	seen := map[api.Errno]int{}
	for range 20000 {
		b := make([]byte, r.Intn([]int{10, 70, 300}[r.Intn(3)]))
		r.Read(b)
		for _, a := range []osc.Ask{title(string(b)), clip(string(b)), title(puzzle(r, r.Intn(40))), clip(puzzle(r, r.Intn(200))), {Kind: r.Intn(5) - 1, Data: string(b)}} {
			want, e := wordedWrite(a)
			wantWrite(t, a, want, e)
			seen[e]++
			if e == api.OK {
				wantRead(t, want, a, api.OK)
			}
		}
	}
	for _, e := range []api.Errno{api.OK, api.ErrForm, api.ErrLong} {
		if seen[e] < 1000 {
			t.Errorf("%v: %d times alone", e, seen[e])
		}
	}
}

// P18.4: titles are short, and of points, if what is behind was.
func TestTitleOfPoints(t *testing.T) {
	r := rand.New(rand.NewSource(184))
	cut := 0
	for range 10000 {
		var s []rune
		for range r.Intn(80) {
			s = append(s, []rune{'a', ';', 0, 0x7F, 0x80, 0x7FF, 0x800, 0xD7FF, 0xE000, 0xFFFD, 0xFFFF, 0x10000, 0x10FFFF, rune(r.Intn(0xD800))}[r.Intn(14)])
		}
		text := string(s)
		a, e := osc.Read([]string{"0;", "2;"}[r.Intn(2)] + text)
		if e != api.OK || a.Kind != osc.Title || len(a.Data) > api.MaxTitle || !utf8.ValidString(a.Data) || !strings.HasPrefix(text, a.Data) {
			t.Fatalf("of %q: %+v, %v", text, a, e)
		}
		if len(a.Data) < len(text) {
			_, next := utf8.DecodeRuneInString(text[len(a.Data):])
			if len(a.Data)+next <= api.MaxTitle {
				t.Fatalf("of %q: %q, though one more point has room", text, a.Data)
			}
			cut++
		}
		wantWrite(t, a, "2;"+a.Data, api.OK)
	}
	if cut < 1000 {
		t.Errorf("%d were cut", cut)
	}
}

// P18.1: texts by chance, put together of what texts of the system are made of.
func TestReadRandom(t *testing.T) {
	r := rand.New(rand.NewSource(185))
	begins := []string{"0;", "2;", "52;", "52;c;", "52;", "52;c;", "5", "1;", "02;", ""}
	wheres := []string{"", "", "c", "p", "s", "q", "0", "9", ";", ";", "x", ":", "\u00e4"}
	type kind struct {
		kind int
		e    api.Errno
	}
	seen := map[kind]int{}
	for range 50000 {
		s := begins[r.Intn(len(begins))]
		for range r.Intn(4) {
			s += wheres[r.Intn(len(wheres))]
		}
		b := make([]byte, r.Intn([]int{4, 100, 900}[r.Intn(3)]))
		r.Read(b)
		s += []string{"", ";", ";"}[r.Intn(3)] + []string{letters(string(b)), letters(string(b)), puzzle(r, r.Intn(70))}[r.Intn(3)]
		if r.Intn(5) == 0 {
			s = s[:r.Intn(len(s)+1)]
		}
		want, e := wordedRead(s)
		wantRead(t, s, want, e)
		seen[kind{want.Kind, e}]++
	}
	for _, k := range []kind{{1, api.OK}, {2, api.OK}, {0, api.ErrNone}, {0, api.ErrForm}, {0, api.ErrLong}} {
		if seen[k] < 500 {
			t.Errorf("%+v: %d times alone", k, seen[k])
		}
	}
}

// Rule 7: the same is answered the same, whatever was asked between.
func TestSameAgain(t *testing.T) {
	texts := []string{"0;a", "52;c;TWE=", "52;c;?", "1;", "2;" + strings.Repeat("\u20ac", 40), ""}
	var first []osc.Ask
	for _, s := range texts {
		a, _ := osc.Read(s)
		first = append(first, a)
	}
	saved := slices.Clone(first)
	for range 3 {
		for i := len(texts) - 1; i >= 0; i-- {
			if a, _ := osc.Read(texts[i]); a != first[i] {
				t.Errorf("Read(%q): %+v, then %+v", texts[i], first[i], a)
			}
			osc.Write(clip(texts[i]))
		}
	}
	if !slices.Equal(first, saved) {
		t.Error("what was handed out was changed")
	}
}

// The document's example.
func TestExample(t *testing.T) {
	wantRead(t, "52;c;TWE=", osc.Ask{Kind: osc.Clip, Data: "Ma"}, api.OK)
	wantWrite(t, osc.Ask{Kind: osc.Clip, Data: "Ma"}, "52;c;TWE=", api.OK)
}
