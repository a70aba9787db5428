package reg_test

import (
	"bytes"
	"fmt"
	"math"
	"math/rand"
	"slices"
	"strings"
	"testing"

	"longline/api"
	"longline/grid"
	"longline/patch"
	"longline/reg"
	"longline/style"
	"longline/term"
	"longline/view"
)

// number is a number's bytes, in so many of them as are asked for, which may be more than it needs.
func number(v uint64, size int) []byte {
	mark := map[int]uint64{1: 0, 2: 1, 4: 2, 8: 3}[size]
	v |= mark << (8*size - 2)
	var b []byte
	for i := size - 1; i >= 0; i-- {
		b = append(b, byte(v>>(8*i)))
	}
	return b
}

// least is a number's bytes, as few as there may be.
func least(v uint64) []byte {
	for _, size := range []int{1, 2, 4} {
		if v < 1<<(8*size-2) {
			return number(v, size)
		}
	}
	return number(v, 8)
}

func joined(l ...[]byte) []byte { return bytes.Join(l, nil) }

// field are a field's bytes.
func field(tag byte, data ...[]byte) []byte {
	d := joined(data...)
	return joined([]byte{tag}, least(uint64(len(d))), d)
}

// worded is the change between states that may be, as the document words it.
func worded(a, b reg.State) []byte {
	p, _ := patch.Diff(a.View, b.View)
	d := field(1, p)
	if a.Title != b.Title {
		d = joined(d, field(2, []byte(b.Title)))
	}
	if a.Clips != b.Clips || a.Clip != b.Clip {
		d = joined(d, field(3, least(b.Clips), []byte(b.Clip)))
	}
	if a.Bells != b.Bells {
		d = joined(d, field(4, least(b.Bells)))
	}
	return d
}

// letters are the cells of a text.
func letters(s string) []grid.Cell {
	var l []grid.Cell
	for _, p := range s {
		l = append(l, grid.Cell{Point: p})
	}
	return l
}

// told is all of a state as a text.
func told(s reg.State) string {
	v := s.View
	return fmt.Sprintf("%d %d %v %d %d %v %q %q %d %d", v.Rows, v.Cols, v.Cells, v.Row, v.Col, v.Visible, s.Title, s.Clip, s.Clips, s.Bells)
}

func equal(a, b reg.State) bool { return told(a) == told(b) }

func empty(s reg.State) bool { return equal(s, reg.State{}) }

// small is a state that has all.
func small() reg.State {
	v := view.View{Rows: 1, Cols: 3, Cells: letters("abc"), Row: 0, Col: 2, Visible: true}
	return reg.State{View: v, Title: "a title", Clip: "a clip", Clips: 2, Bells: 3}
}

// five is the patch of small's view to itself, as a field.
func five() []byte { return []byte{1, 5, 1, 3, 0, 2, 1} }

// with is small with something in it changed.
func with(change func(s *reg.State)) reg.State {
	s := small()
	change(&s)
	return s
}

// there holds a change against what it is to be, and goes there and back.
func there(t *testing.T, name string, a, b reg.State, want []byte) {
	t.Helper()
	d, e := reg.Diff(a, b)
	if e != api.OK || !bytes.Equal(d, want) {
		t.Errorf("%s: %v, %v, want %v", name, d, e, want)
	}
	if s, e := reg.Apply(a, want); e != api.OK || !equal(s, b) {
		t.Errorf("%s: applied %s, %v", name, told(s), e)
	}
}

// none asks for ErrForm.
func none(t *testing.T, name string, a reg.State, d []byte) {
	t.Helper()
	if s, e := reg.Apply(a, d); e != api.ErrForm || !empty(s) {
		t.Errorf("%s: %s, %v", name, told(s), e)
	}
}

// P22.1: the first state.
func TestFirst(t *testing.T) {
	s := reg.First()
	if !equal(s, reg.State{View: view.First()}) || !reg.Right(s) {
		t.Errorf("%s", told(s))
	}
	s.View.Cells[0].Point = 'x'
	if reg.First().View.Cells[0].Point != ' ' {
		t.Error("the first state is not new each time")
	}
	if reg.Most != 8700 {
		t.Errorf("Most %d", reg.Most)
	}
}

// others are states that have one thing other than small; bad ones may not be.
func others() map[string]reg.State {
	l := map[string]reg.State{}
	put := func(name string, change func(s *reg.State)) { l[name] = with(change) }
	put("good column", func(s *reg.State) { s.View.Col = 0 })
	put("good not visible", func(s *reg.State) { s.View.Visible = false })
	put("good cell", func(s *reg.State) { s.View.Cells[2].Point = 'x' })
	put("good style", func(s *reg.State) { s.View.Cells[0].Style.Bg = 0x1000000 })
	put("good size", func(s *reg.State) { s.View.Rows, s.View.Cols, s.View.Col = 3, 1, 0 })
	put("good first view", func(s *reg.State) { s.View = view.First() })
	put("good no title", func(s *reg.State) { s.Title = "" })
	put("good title", func(s *reg.State) { s.Title = "A title" })
	put("good long title", func(s *reg.State) { s.Title = strings.Repeat("t", 64) })
	put("good title of any bytes", func(s *reg.State) { s.Title = "\xFF\x00\xC3" })
	put("good no clip", func(s *reg.State) { s.Clip = "" })
	put("good clip", func(s *reg.State) { s.Clip = "a clip " })
	put("good long clip", func(s *reg.State) { s.Clip = strings.Repeat("c", 256) })
	put("good clip of any bytes", func(s *reg.State) { s.Clip = "\xFF\x00\xC3" })
	put("good title for clip", func(s *reg.State) { s.Title, s.Clip = s.Clip, s.Title })
	put("good numbers the other way round", func(s *reg.State) { s.Clips, s.Bells = s.Bells, s.Clips })
	for _, n := range []uint64{0, 1, 63, 64, 0x3FFF, 0x4000, 1<<30 - 1, 1 << 30, 1 << 32, api.MaxVint} {
		put(fmt.Sprint("good clips ", n), func(s *reg.State) { s.Clips = n })
		put(fmt.Sprint("good bells ", n), func(s *reg.State) { s.Bells = n })
	}
	for _, n := range []uint64{api.MaxVint + 1, 1 << 63, math.MaxUint64} {
		put(fmt.Sprint("bad clips ", n), func(s *reg.State) { s.Clips = n })
		put(fmt.Sprint("bad bells ", n), func(s *reg.State) { s.Bells = n })
	}
	put("bad title", func(s *reg.State) { s.Title = strings.Repeat("t", 65) })
	put("bad clip", func(s *reg.State) { s.Clip = strings.Repeat("c", 257) })
	put("bad view", func(s *reg.State) { s.View = view.View{} })
	put("bad cells", func(s *reg.State) { s.View.Cells = s.View.Cells[:2] })
	put("bad cell", func(s *reg.State) { s.View.Cells[2].Point = -1 })
	put("bad row", func(s *reg.State) { s.View.Row = 1 })
	put("bad nothing", func(s *reg.State) { *s = reg.State{} })
	return l
}

// P22.1: what may be, and what is equal; P22.2: what may not be is neither told nor changed; there and back from each to each.
func TestRightSame(t *testing.T) {
	if !reg.Right(small()) || !reg.Same(small(), small()) {
		t.Fatal("small")
	}
	l := others()
	for name, s := range l {
		good := strings.HasPrefix(name, "good")
		if reg.Right(s) != good {
			t.Errorf("%s: %v", name, reg.Right(s))
		}
		if reg.Same(s, small()) || reg.Same(small(), s) || !reg.Same(s, s) {
			t.Errorf("%s: it is the same as small, or not as itself", name)
		}
		if good {
			there(t, name, small(), s, worded(small(), s))
			there(t, name+" back", s, small(), worded(s, small()))
			there(t, name+" itself", s, s, worded(s, s))
			continue
		}
		for _, o := range []reg.State{small(), reg.First(), s} {
			if d, e := reg.Diff(s, o); len(d) != 0 || e != api.ErrForm {
				t.Errorf("from %s: %v, %v", name, d, e)
			}
			if d, e := reg.Diff(o, s); len(d) != 0 || e != api.ErrForm {
				t.Errorf("to %s: %v, %v", name, d, e)
			}
		}
		none(t, "from "+name, s, five())
		none(t, "from "+name+" by nothing", s, nil)
	}
	// Lists without elements are the same, nil or not.
	if !reg.Same(reg.State{View: view.View{Cells: []grid.Cell{}}}, reg.State{}) {
		t.Error("no cells are not the same as none")
	}
}

// P22.1: what a terminal shows.
func TestOf(t *testing.T) {
	for _, x := range []*term.Term{nil, {}, new(term.Term)} {
		if s, e := reg.Of(x); e != api.ErrNil || !empty(s) {
			t.Errorf("%s, %v", told(s), e)
		}
	}
	x, _ := term.New(2, 3)
	want := reg.State{View: view.View{Rows: 2, Cols: 3, Cells: letters("      "), Visible: true}}
	see := func(says string) {
		t.Helper()
		x.Feed([]byte(says))
		if s, e := reg.Of(x); e != api.OK || !equal(s, want) || !reg.Right(s) {
			t.Errorf("%q: %s, %v, want %s", says, told(s), e, told(want))
		}
	}
	see("")
	want.View.Cells, want.View.Row, want.View.Col = letters("abcd  "), 1, 1
	see("abcd")
	want.Title = "a title"
	see("\x1b]2;a title\x07")
	want.Bells = 2
	see("\a\a")
	want.Clip, want.Clips = "Ma", 1
	see("\x1b]52;c;TWE=\x07")
	want.Clips = 2
	see("\x1b]52;c;TWE=\x07")
	want.Clip, want.Clips = "", 3
	see("\x1b]52;c;\x07")
	want.View.Visible = false
	see("\x1b[?25l")
	want.Title = strings.Repeat("t", 64)
	see("\x1b]2;" + strings.Repeat("t", 80) + "\x07")
	s, _ := reg.Of(x)
	s.View.Cells[0].Point = 'z'
	see("")
}

// P22.2, the example: changes by hand.
func TestByHand(t *testing.T) {
	there(t, "first", reg.First(), reg.First(), []byte{1, 5, 1, 1, 0, 0, 1})
	a := small()
	there(t, "itself", a, a, five())
	there(t, "title", a, with(func(s *reg.State) { s.Title = "xy" }), append(five(), 2, 2, 'x', 'y'))
	there(t, "no title", a, with(func(s *reg.State) { s.Title = "" }), append(five(), 2, 0))
	there(t, "clip", a, with(func(s *reg.State) { s.Clip = "xy" }), append(five(), 3, 3, 2, 'x', 'y'))
	there(t, "no clip", a, with(func(s *reg.State) { s.Clip = "" }), append(five(), 3, 1, 2))
	there(t, "clips alone", a, with(func(s *reg.State) { s.Clips = 64 }), joined(five(), []byte{3, 8, 0x40, 64}, []byte("a clip")))
	there(t, "fewer clips", a, with(func(s *reg.State) { s.Clips = 0 }), joined(five(), []byte{3, 7, 0}, []byte("a clip")))
	there(t, "bells", a, with(func(s *reg.State) { s.Bells = 300 }), append(five(), 4, 2, 65, 44))
	there(t, "no bells", a, with(func(s *reg.State) { s.Bells = 0 }), append(five(), 4, 1, 0))
	b := reg.State{View: view.View{Rows: 1, Cols: 3, Cells: letters("axc")}, Title: "t", Clip: "c", Clips: 1, Bells: 1}
	there(t, "all", a, b, []byte{1, 12, 1, 3, 0, 0, 0, 1, 1, 0, 0, 0, 0x40, 'x', 2, 1, 't', 3, 2, 1, 'c', 4, 1, 1})
	there(t, "all from the first", reg.First(), a, joined([]byte{1, 22, 1, 3, 0, 2, 1, 0, 3, 0, 0, 0, 0x40, 'a', 0, 0, 0, 0x40, 'b', 0, 0, 0, 0x40, 'c'},
		[]byte{2, 7}, []byte("a title"), []byte{3, 7, 2}, []byte("a clip"), []byte{4, 1, 3}))
}

// P22.2: what is no change from small to some state.
func TestWrongChanges(t *testing.T) {
	title, clip, bells := []byte{2, 1, 't'}, []byte{3, 2, 1, 'c'}, []byte{4, 1, 1}
	patched := []byte{1, 12, 1, 3, 0, 2, 1, 0, 1, 0, 0, 0, 0x40, 'x'}
	there(t, "in order", small(), with(func(s *reg.State) { s.Title, s.Clip, s.Clips, s.Bells = "t", "c", 1, 1 }), joined(five(), title, clip, bells))
	for name, d := range map[string][]byte{
		"nothing":                      nil,
		"no bytes":                     {},
		"a tag":                        {1},
		"no patch":                     {1, 0},
		"four bytes":                   {1, 4, 1, 3, 0, 2},
		"a patch cut":                  {1, 5, 1, 3, 0, 2},
		"a patch that is none":         {1, 5, 1, 3, 0, 3, 1},
		"a patch of another view":      {1, 5, 13, 3, 0, 2, 1},
		"a patch as it was":            {1, 12, 1, 3, 0, 2, 1, 0, 1, 0, 0, 0, 0x40, 'a'},
		"a patch with a byte more":     {1, 6, 1, 3, 0, 2, 1, 0},
		"a size too long":              {1, 0x40, 5, 1, 3, 0, 2, 1},
		"a patch cut in a run":         patched[:len(patched)-1],
		"no patch but a title":         title,
		"no patch but all others":      joined(title, clip, bells),
		"the patch twice":              joined(five(), five()),
		"a patch and another one":      joined(five(), []byte{1, 12, 1, 3, 0, 2, 1, 0, 1, 0, 0, 0, 0x40, 'x'}),
		"the patch behind a title":     joined(title, five()),
		"the patch last":               joined(title, clip, bells, five()),
		"a clip ahead of a title":      joined(five(), clip, title),
		"bells ahead of a title":       joined(five(), bells, title),
		"bells ahead of a clip":        joined(five(), bells, clip),
		"a title twice":                joined(five(), title, title),
		"titles":                       joined(five(), title, []byte{2, 1, 'u'}),
		"a clip twice":                 joined(five(), clip, clip),
		"bells twice":                  joined(five(), bells, bells),
		"a tag 0":                      joined(five(), []byte{0, 0}),
		"a tag 0 ahead":                joined([]byte{0, 0}, five()),
		"a tag 5":                      joined(five(), []byte{5, 0}),
		"a tag 5 between":              joined(five(), title, []byte{5, 0}, clip),
		"a tag 255":                    joined(five(), []byte{255, 1, 1}),
		"the title as it was":          joined(five(), field(2, []byte("a title"))),
		"the title as it was and more": joined(five(), field(2, []byte("a title")), bells),
		"a title of too many":          joined(five(), field(2, bytes.Repeat([]byte("t"), 65))),
		"the clip as it was":           joined(five(), field(3, []byte{2}, []byte("a clip"))),
		"a clip of nothing":            joined(five(), []byte{3, 0}),
		"a clip's number cut":          joined(five(), []byte{3, 1, 0x40}),
		"a clip's number too long":     joined(five(), []byte{3, 3, 0x40, 1, 'c'}),
		"a clip of too many":           joined(five(), field(3, []byte{1}, bytes.Repeat([]byte("c"), 257))),
		"the bells as they were":       joined(five(), []byte{4, 1, 3}),
		"bells of nothing":             joined(five(), []byte{4, 0}),
		"bells cut":                    joined(five(), []byte{4, 1, 0x40}),
		"bells too long":               joined(five(), []byte{4, 2, 0x40, 1}),
		"bells and a byte":             joined(five(), []byte{4, 2, 1, 0}),
		"a byte behind":                joined(five(), []byte{2}),
		"a size cut":                   joined(five(), []byte{2, 0x40}),
		"data cut":                     joined(five(), []byte{2, 2, 't'}),
		"very many fields":             joined(five(), bytes.Repeat([]byte{2, 1, 't'}, 200)),
		"a very long field":            joined(five(), field(2, make([]byte, 20000))),
	} {
		none(t, name, small(), d)
	}
	// The longest ones that may be.
	there(t, "long", small(), with(func(s *reg.State) { s.Title, s.Clip = strings.Repeat("t", 64), strings.Repeat("c", 256) }),
		joined(five(), field(2, bytes.Repeat([]byte("t"), 64)), field(3, []byte{2}, bytes.Repeat([]byte("c"), 256))))
	// Where something is so already, what tells it is no change; from another state it is one.
	now := with(func(s *reg.State) { s.Title = "t" })
	none(t, "the title is so already", now, joined(five(), title))
	there(t, "from another state", with(func(s *reg.State) { s.Title = "" }), now, joined(five(), title))
}

// anyState is one that may be.
func anyState(r *rand.Rand) reg.State {
	v := view.View{Rows: 1 + r.Intn(3), Cols: 1 + r.Intn(3), Visible: r.Intn(2) == 0}
	v.Row, v.Col = r.Intn(v.Rows), r.Intn(v.Cols)
	for range v.Rows * v.Cols {
		v.Cells = append(v.Cells, grid.Cell{Point: []int32{' ', 'a', 0x20AC}[r.Intn(3)], Style: style.Style{Flags: uint8(r.Intn(2))}})
	}
	few := []uint64{0, 1, 63, 64, 300, 1 << 30, api.MaxVint}
	return reg.State{View: v, Title: strings.Repeat("t", r.Intn(3)*r.Intn(33)), Clip: strings.Repeat("c", r.Intn(3)*r.Intn(129)), Clips: few[r.Intn(len(few))], Bells: few[r.Intn(len(few))]}
}

// turned is a state that has some of another one.
func turned(r *rand.Rand, s reg.State) reg.State {
	o := anyState(r)
	if r.Intn(2) == 0 {
		o.View = s.View
	}
	if r.Intn(2) == 0 {
		o.Title = s.Title
	}
	if r.Intn(2) == 0 {
		o.Clip = s.Clip
	}
	if r.Intn(2) == 0 {
		o.Clips = s.Clips
	}
	if r.Intn(2) == 0 {
		o.Bells = s.Bells
	}
	return o
}

// P22.2, P22.3: states at random, there and back, and against the document's words.
func TestWorded(t *testing.T) {
	r := rand.New(rand.NewSource(22))
	for range 8000 {
		a := anyState(r)
		b := turned(r, a)
		there(t, "at random", a, b, worded(a, b))
		if reg.Same(a, b) != equal(a, b) {
			t.Errorf("Same %v", reg.Same(a, b))
		}
		if t.Failed() {
			t.Fatalf("from %s to %s", told(a), told(b))
		}
	}
}

// P22.2: changes that were spoiled make either nothing, or a state of which they are the change.
func TestSpoiled(t *testing.T) {
	r := rand.New(rand.NewSource(222))
	good := 0
	for range 40000 {
		a := anyState(r)
		d := worded(a, turned(r, a))
		at := r.Intn(len(d))
		switch r.Intn(6) {
		case 0:
			d[at] ^= 1 << r.Intn(8)
		case 1:
			d[at] = byte(r.Intn(6))
		case 2:
			d = d[:at]
		case 3:
			d = slices.Insert(d, at, byte(r.Intn(70)))
		case 4:
			d = slices.Delete(d, at, at+1)
		case 5:
			d = append(d, field(byte(1+r.Intn(5)), least(uint64(r.Intn(70))), []byte("x")[:r.Intn(2)])...)
		}
		s, e := reg.Apply(a, d)
		switch {
		case e == api.OK:
			good++
			if !reg.Right(s) || !bytes.Equal(worded(a, s), d) {
				t.Fatalf("from %s by %v: %s", told(a), d, told(s))
			}
		case e != api.ErrForm || !empty(s):
			t.Fatalf("from %s by %v: %s, %v", told(a), d, told(s), e)
		}
		// From another state it is a change or none.
		o := turned(r, a)
		if s, e := reg.Apply(o, d); e == api.OK && !bytes.Equal(worded(o, s), d) || e != api.OK && (e != api.ErrForm || !empty(s)) {
			t.Fatalf("from %s by %v: %s, %v", told(o), d, told(s), e)
		}
	}
	if good < 2000 {
		t.Errorf("%d good ones", good)
	}
	for range 20000 {
		d := make([]byte, r.Intn(40))
		r.Read(d)
		if s, e := reg.Apply(reg.First(), d); e != api.OK && !empty(s) {
			t.Fatalf("%v: %s, %v", d, told(s), e)
		}
	}
}

// P22.3: the longest change.
func TestMost(t *testing.T) {
	long := grid.Cell{Point: 0x10FFFF, Style: style.Style{Flags: 255, Fg: 0x2FFFFFF, Bg: 0x2FFFFFF}}
	for every := range 4 {
		v := view.View{Rows: 12, Cols: 40, Row: 11, Col: 39, Visible: true}
		for i := range 480 {
			c := long
			if every > 0 && i%(every+1) == 0 {
				c = grid.Cell{Point: ' '}
			}
			v.Cells = append(v.Cells, c)
		}
		b := reg.State{View: v, Title: strings.Repeat("t", 64), Clip: strings.Repeat("c", 256), Clips: api.MaxVint, Bells: api.MaxVint}
		there(t, fmt.Sprint("every ", every), reg.First(), b, worded(reg.First(), b))
		if d, _ := reg.Diff(reg.First(), b); len(d) > reg.Most || len(d) < 3000 {
			t.Errorf("every %d: %d bytes", every, len(d))
		}
	}
}

// P3 (the fold): what a terminal shows is the same whether it is seen at once, or made of changes of what it showed on the way.
func TestFold(t *testing.T) {
	r := rand.New(rand.NewSource(3))
	says := []string{"a", "bc", "\r\n", "\x1b[2;2H", "\x1b[31m", "\x1b[0m", "\x1b[2J", "\x1b]2;one\a", "\x1b]2;two\a", "\x1b]52;c;TWE=\a", "\x1b]52;c;\a", "\a", "\x1b[?1049h", "\x1b[?1049l", "\x1b[?25l", "\x1b[?25h", "\xe2\x82", "\xac", "\x1b[", "3C"}
	for range 200 {
		x, _ := term.New(2, 5)
		whole, _ := term.New(2, 5)
		seen := reg.First()
		var all []byte
		for range 30 {
			for range r.Intn(4) {
				piece := []byte(says[r.Intn(len(says))])
				all = append(all, piece...)
				x.Feed(piece)
			}
			shown, _ := reg.Of(x)
			d, e := reg.Diff(seen, shown)
			next, e2 := reg.Apply(seen, d)
			if e != api.OK || e2 != api.OK || !equal(next, shown) || !reg.Same(next, shown) {
				t.Fatalf("%q: %v, %v, %s, want %s", all, e, e2, told(next), told(shown))
			}
			seen = next
		}
		whole.Feed(all)
		if at, _ := reg.Of(whole); !equal(at, seen) {
			t.Fatalf("%q: %s, want %s", all, told(seen), told(at))
		}
	}
}

// Rules 4, 5 and 7: nothing is changed or kept, nothing behind a list's length is read or written, and all that is handed out is new.
func TestMemory(t *testing.T) {
	room := letters("abcdef")
	a := small()
	a.View.Cells = room[:3]
	b := with(func(s *reg.State) { s.View.Cells[1].Point, s.Title, s.Clip, s.Bells = 'x', "t", "c", 9 })
	d, _ := reg.Diff(a, b)
	want := slices.Clone(d)
	again, _ := reg.Diff(a, b)
	again[len(again)-1] = 99
	roomOfD := append(slices.Clone(d), 5, 0, 0)
	cut := roomOfD[:len(d)]
	s, e := reg.Apply(a, cut)
	if e != api.OK || !equal(s, b) {
		t.Fatalf("%s, %v", told(s), e)
	}
	other, _ := reg.Apply(a, cut)
	clear(cut)
	if !equal(s, b) {
		t.Error("a state keeps a change's bytes")
	}
	s.View.Cells[0].Point = 'z'
	if !equal(other, b) || !slices.Equal(room, letters("abcdef")) || !bytes.Equal(d, want) || !bytes.Equal(roomOfD[len(d):], []byte{5, 0, 0}) {
		t.Error("memory is shared, or was changed")
	}
	s, _ = reg.Apply(a, five())
	s.View.Cells[0].Point = 'z'
	if room[0].Point != 'a' {
		t.Error("the cells are a's own")
	}
}
