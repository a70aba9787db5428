package view_test

import (
	"bytes"
	"fmt"
	"math"
	"math/rand"
	"slices"
	"testing"

	"longline/api"
	"longline/grid"
	"longline/style"
	"longline/term"
	"longline/view"
)

// number is a number's bytes, in so many of them as are asked for, which may be more than it needs.
func number(v uint64, size int) []byte {
	mark := map[int]uint64{1: 0, 2: 1, 4: 2, 8: 3}[size]
	v |= mark << (8*size - 2)
	var b []byte
	for i := size - 1; i >= 0; i-- {
		b = append(b, byte(v>>(8*i)))
	}
	return b
}

// least is a number's bytes, as few as there may be.
func least(v uint64) []byte {
	for _, size := range []int{1, 2, 4} {
		if v < 1<<(8*size-2) {
			return number(v, size)
		}
	}
	return number(v, 8)
}

func joined(l ...[]byte) []byte { return bytes.Join(l, nil) }

// wordedCell is a cell's bytes, as the document words them.
func wordedCell(c grid.Cell) []byte {
	return joined([]byte{c.Style.Flags}, least(uint64(c.Style.Fg)), least(uint64(c.Style.Bg)), least(uint64(c.Point)))
}

// wordedWrite is the bytes of a view that may be, as the document words them.
func wordedWrite(v view.View) []byte {
	b := []byte{byte(v.Rows), byte(v.Cols), byte(v.Row), byte(v.Col), 0}
	if v.Visible {
		b[4] = 1
	}
	for rest := v.Cells; len(rest) > 0; {
		n := slices.IndexFunc(rest, func(c grid.Cell) bool { return c != rest[0] })
		if n < 0 {
			n = len(rest)
		}
		b = joined(b, least(uint64(n)), wordedCell(rest[0]))
		rest = rest[n:]
	}
	return b
}

func letter(p int32) grid.Cell { return grid.Cell{Point: p} }

// letters are the cells of a text.
func letters(s string) []grid.Cell {
	var l []grid.Cell
	for _, p := range s {
		l = append(l, letter(p))
	}
	return l
}

// good are points and colours that may be, about all borders; bad are some that may not be.
var (
	goodPoints  = []int32{0, 1, 32, 63, 64, 127, 128, 0x3FFF, 0x4000, 0xD7FF, 0xE000, 0xFFFD, 0xFFFF, 0x10000, 0x10FFFF}
	badPoints   = []int32{-1, math.MinInt32, 0xD800, 0xDBFF, 0xDC00, 0xDFFF, 0x110000, math.MaxInt32}
	goodColours = []uint32{0, 0x1000000, 0x1000001, 0x10000FF, 0x2000000, 0x2FFFFFF, 0x2010203}
	badColours  = []uint32{1, 7, 0xFFFFFF, 0x1000100, 0x1FFFFFF, 0x3000000, math.MaxInt32, math.MaxUint32}
)

// anyCell is one of a few, or any that may be.
func anyCell(r *rand.Rand) grid.Cell {
	if r.Intn(2) == 0 {
		return letter([]int32{' ', 'a', 0x20AC}[r.Intn(3)])
	}
	return grid.Cell{Point: goodPoints[r.Intn(len(goodPoints))], Style: style.Style{Flags: uint8(r.Intn(256)), Fg: goodColours[r.Intn(len(goodColours))], Bg: goodColours[r.Intn(len(goodColours))]}}
}

// anyView is one that may be.
func anyView(r *rand.Rand) view.View {
	v := view.View{Rows: 1 + r.Intn(4), Cols: 1 + r.Intn(5), Visible: r.Intn(2) == 0}
	if r.Intn(5) == 0 {
		v.Rows, v.Cols = 1+r.Intn(12), 1+r.Intn(40)
	}
	v.Row, v.Col = r.Intn(v.Rows), r.Intn(v.Cols)
	for len(v.Cells) < v.Rows*v.Cols {
		n := 1 + r.Intn(4)*r.Intn(40)
		v.Cells = append(v.Cells, slices.Repeat([]grid.Cell{anyCell(r)}, min(n, v.Rows*v.Cols-len(v.Cells)))...)
	}
	return v
}

// equal holds views against each other, without Same.
func equal(a, b view.View) bool {
	return fmt.Sprint(a.Rows, a.Cols, a.Row, a.Col, a.Visible, a.Cells) == fmt.Sprint(b.Rows, b.Cols, b.Row, b.Col, b.Visible, b.Cells)
}

func empty(v view.View) bool {
	return v.Rows == 0 && v.Cols == 0 && len(v.Cells) == 0 && v.Row == 0 && v.Col == 0 && !v.Visible
}

// small is a view of two rows of three letters.
func small() view.View {
	return view.View{Rows: 2, Cols: 3, Cells: letters("abcdef"), Row: 1, Col: 2, Visible: true}
}

// unlike are views that have one thing other than small, and whether they may be.
func unlike() map[string]view.View {
	l := map[string]view.View{}
	put := func(name string, change func(v *view.View)) {
		v := small()
		change(&v)
		l[name] = v
	}
	put("good Row 0", func(v *view.View) { v.Row = 0 })
	put("good Col 0", func(v *view.View) { v.Col = 0 })
	put("good Visible", func(v *view.View) { v.Visible = false })
	put("good turned", func(v *view.View) { v.Rows, v.Cols, v.Col = 3, 2, 1 })
	put("good one row", func(v *view.View) { v.Rows, v.Cols, v.Row = 1, 6, 0 })
	for i := range 6 {
		put(fmt.Sprint("good point ", i), func(v *view.View) { v.Cells[i].Point = 'x' })
		put(fmt.Sprint("good flags ", i), func(v *view.View) { v.Cells[i].Style.Flags = 1 })
		put(fmt.Sprint("good Fg ", i), func(v *view.View) { v.Cells[i].Style.Fg = 0x1000000 })
		put(fmt.Sprint("good Bg ", i), func(v *view.View) { v.Cells[i].Style.Bg = 0x2000000 })
		for _, p := range badPoints {
			put(fmt.Sprint("bad point ", p, i), func(v *view.View) { v.Cells[i].Point = p })
		}
		for _, c := range badColours {
			put(fmt.Sprint("bad Fg ", c, i), func(v *view.View) { v.Cells[i].Style.Fg = c })
			put(fmt.Sprint("bad Bg ", c, i), func(v *view.View) { v.Cells[i].Style.Bg = c })
		}
	}
	for _, n := range []int{math.MinInt, -1, 2, 3, 12, math.MaxInt} {
		put(fmt.Sprint("bad Row ", n), func(v *view.View) { v.Row = n })
	}
	for _, n := range []int{math.MinInt, -1, 3, 4, 40, math.MaxInt} {
		put(fmt.Sprint("bad Col ", n), func(v *view.View) { v.Col = n })
	}
	for _, n := range []int{math.MinInt, -2, -1, 0, 1, 4, 12, 13, 40, 41, math.MaxInt/2 + 1, math.MaxInt} {
		put(fmt.Sprint("bad Rows ", n), func(v *view.View) { v.Rows, v.Row = n, 0 })
		put(fmt.Sprint("bad Cols ", n), func(v *view.View) { v.Cols, v.Col = n, 0 })
	}
	put("bad both below 0", func(v *view.View) { v.Rows, v.Cols, v.Row, v.Col = -2, -3, -3, -4 })
	put("bad both, 0", func(v *view.View) { v.Rows, v.Cols, v.Cells, v.Row, v.Col = 0, 0, nil, 0, 0 })
	put("bad no cells", func(v *view.View) { v.Cells = nil })
	put("bad a cell less", func(v *view.View) { v.Cells = v.Cells[:5] })
	put("bad a cell more", func(v *view.View) { v.Cells = append(v.Cells, letter('g')) })
	put("bad many rows", func(v *view.View) { v.Rows, v.Cols, v.Cells, v.Col = 13, 1, letters("abcdefghijklm"), 0 })
	put("bad many columns", func(v *view.View) { v.Rows, v.Cols, v.Cells, v.Row = 1, 41, slices.Repeat(letters("a"), 41), 0 })
	put("good many rows", func(v *view.View) {
		v.Rows, v.Cols, v.Cells, v.Row, v.Col = 12, 1, letters("abcdefghijkl"), 11, 0
	})
	put("good many columns", func(v *view.View) {
		v.Rows, v.Cols, v.Cells, v.Row, v.Col = 1, 40, slices.Repeat(letters("a"), 40), 0, 39
	})
	put("bad nothing", func(v *view.View) { *v = view.View{} })
	return l
}

// P20.1: the first view.
func TestFirst(t *testing.T) {
	if v := view.First(); !equal(v, view.View{Rows: 1, Cols: 1, Cells: []grid.Cell{{Point: 32}}, Visible: true}) || !view.Right(v) {
		t.Errorf("%+v", v)
	}
	v := view.First()
	v.Cells[0] = letter('x')
	if view.First().Cells[0] != letter(' ') {
		t.Error("the first view is not new each time")
	}
}

// P20.1: what a view may be, and what is equal; P20.2: what may not be is not written.
func TestRightSame(t *testing.T) {
	if !view.Right(small()) || !view.Same(small(), small()) {
		t.Fatal("small")
	}
	l := unlike()
	if len(l) < 150 {
		t.Errorf("%d views", len(l))
	}
	for name, v := range l {
		good := name[:4] == "good"
		if view.Right(v) != good {
			t.Errorf("%s: %v", name, view.Right(v))
		}
		if view.Same(v, small()) || view.Same(small(), v) || !view.Same(v, v) {
			t.Errorf("%s: it is the same as small, or not as itself", name)
		}
		b, e := view.Write(v)
		switch {
		case !good && (len(b) != 0 || e != api.ErrForm):
			t.Errorf("%s: %v, %v", name, b, e)
		case good && (e != api.OK || !bytes.Equal(b, wordedWrite(v))):
			t.Errorf("%s: %v, %v", name, b, e)
		}
	}
	// All cells to the last one count.
	big := view.View{Rows: 12, Cols: 40, Cells: slices.Repeat(letters("a"), 480)}
	for i := range big.Cells {
		v := big
		v.Cells = slices.Clone(big.Cells)
		v.Cells[i].Point = -1
		if view.Right(v) || view.Same(v, big) {
			t.Errorf("the cell %d does not count", i)
		}
	}
	none := view.View{Cells: []grid.Cell{}}
	if !view.Same(none, view.View{}) || !view.Same(view.View{}, none) {
		t.Error("no cells are not the same as none")
	}
}

// P20.1: what is seen of a terminal.
func TestOf(t *testing.T) {
	for _, none := range []*term.Term{nil, {}, new(term.Term)} {
		if v, e := view.Of(none); !empty(v) || e != api.ErrNil {
			t.Errorf("%+v, %v", v, e)
		}
	}
	got, _ := term.New(2, 3)
	want := view.View{Rows: 2, Cols: 3, Cells: letters("      "), Visible: true}
	see := func(says string) {
		t.Helper()
		got.Feed([]byte(says))
		if v, e := view.Of(got); e != api.OK || !equal(v, want) || !view.Right(v) {
			t.Errorf("%q: %+v, %v, want %+v", says, v, e, want)
		}
	}
	see("")
	want.Cells, want.Row, want.Col = letters("abcd  "), 1, 1
	see("abcd")
	want.Visible = false
	see("\x1b[?25l")
	want.Cells[5], want.Col = grid.Cell{Point: 0x20AC, Style: style.Style{Flags: style.Bold, Bg: 0x1000001}}, 2
	see("\x1b[3G\x1b[1;41m\u20ac")
	// It hangs: the column is the last one.
	want.Cells = slices.Repeat([]grid.Cell{{Point: 32, Style: style.Style{Bg: 0x1000001}}}, 6)
	see("\x1b[?1049h")
	got.Resize(1, 2)
	want.Rows, want.Cols, want.Row, want.Col, want.Cells = 1, 2, 0, 1, letters("ab")
	see("\x1b[?1049l")
	// It is new: what becomes of the terminal, or of another view, does not change it.
	v, _ := view.Of(got)
	other, _ := view.Of(got)
	other.Cells[0] = letter('x')
	got.Feed([]byte("\x1b[2J"))
	if !equal(v, want) {
		t.Errorf("it was changed: %+v", v)
	}
}

// P20.1, P20.3, P3: what is seen of any terminal may be, and goes there and back.
func TestOfAny(t *testing.T) {
	r := rand.New(rand.NewSource(201))
	for range 300 {
		got, _ := term.New(1+r.Intn(12), 1+r.Intn(40))
		for range 10 {
			b := make([]byte, r.Intn(100))
			for i := range b {
				b[i] = byte(r.Intn(256))
				if r.Intn(2) == 0 {
					b[i] = "\x1b\x1b[[?;0123456789hHmmJKrLM@"[r.Intn(26)]
				}
			}
			got.Feed(b)
			got.Feed([]byte(fmt.Sprintf("\x18\x1b[38;2;%d;%d;%d;48;5;%d;%dmx", r.Intn(300), r.Intn(300), r.Intn(300), r.Intn(300), r.Intn(110))))
			v, e := view.Of(got)
			if e != api.OK || !view.Right(v) {
				t.Fatalf("%+v, %v", v, e)
			}
			g := got.Grid()
			for i, c := range v.Cells {
				if at, _ := g.At(i/v.Cols, i%v.Cols); at != c {
					t.Fatalf("the cell %d: %v, want %v", i, c, at)
				}
			}
			thereAndBack(t, v)
		}
	}
}

func thereAndBack(t *testing.T, v view.View) []byte {
	t.Helper()
	b, e := view.Write(v)
	if e != api.OK || !bytes.Equal(b, wordedWrite(v)) {
		t.Fatalf("Write(%+v): %v, %v, want %v", v, b, e, wordedWrite(v))
	}
	back, e := view.Read(b)
	if e != api.OK || !equal(back, v) || !view.Same(back, v) {
		t.Fatalf("Read(%v): %+v, %v, want %+v", b, back, e, v)
	}
	return b
}

// P20.2: cells.
func TestPutCell(t *testing.T) {
	for _, p := range slices.Concat(goodPoints, badPoints) {
		for _, fg := range slices.Concat(goodColours, badColours) {
			for _, bg := range slices.Concat(goodColours, badColours) {
				c := grid.Cell{Point: p, Style: style.Style{Flags: uint8(p), Fg: fg, Bg: bg}}
				b, e := view.PutCell(c)
				if slices.Contains(badPoints, p) || slices.Contains(badColours, fg) || slices.Contains(badColours, bg) {
					if len(b) != 0 || e != api.ErrForm {
						t.Fatalf("PutCell(%+v): %v, %v", c, b, e)
					}
					continue
				}
				if e != api.OK || !bytes.Equal(b, wordedCell(c)) {
					t.Fatalf("PutCell(%+v): %v, %v, want %v", c, b, e, wordedCell(c))
				}
				wantCell(t, b, 0, c, len(b), api.OK)
				wantCell(t, joined([]byte{9, 9}, b, []byte{7}), 2, c, 2+len(b), api.OK)
				wantCell(t, joined(b, b)[:len(b)+1], 0, c, len(b), api.OK)
				for n := range len(b) {
					wantCell(t, b[:n], 0, grid.Cell{}, 0, api.ErrShort)
				}
			}
		}
	}
	if b, e := view.PutCell(grid.Cell{}); !bytes.Equal(b, []byte{0, 0, 0, 0}) || e != api.OK {
		t.Errorf("%v, %v", b, e)
	}
}

func wantCell(t *testing.T, b []byte, at int, want grid.Cell, next int, e api.Errno) {
	t.Helper()
	if c, n, got := view.GetCell(b, at); c != want || n != next || got != e {
		t.Fatalf("GetCell(%v, %d): %+v, %d, %v, want %+v, %d, %v", b, at, c, n, got, want, next, e)
	}
}

// P20.2: bytes that are no cell's.
func TestGetCellFaults(t *testing.T) {
	blank := []byte{0, 0, 0, 32}
	for _, at := range []int{math.MinInt, -1, 5, 6, math.MaxInt} {
		wantCell(t, blank, at, grid.Cell{}, 0, api.ErrArg)
	}
	wantCell(t, nil, 0, grid.Cell{}, 0, api.ErrShort)
	wantCell(t, nil, 1, grid.Cell{}, 0, api.ErrArg)
	wantCell(t, blank, 4, grid.Cell{}, 0, api.ErrShort)
	wantCell(t, blank, 1, grid.Cell{}, 0, api.ErrForm)
	wantCell(t, blank, 2, grid.Cell{}, 0, api.ErrShort)
	wantCell(t, blank, 3, grid.Cell{}, 0, api.ErrShort)
	for _, x := range []struct {
		b []byte
		e api.Errno
	}{
		// Numbers that are longer than they need be.
		{joined([]byte{0}, number(0, 2), []byte{0, 32}), api.ErrForm},
		{joined([]byte{0, 0}, number(0, 4), []byte{32}), api.ErrForm},
		{joined([]byte{0, 0, 0}, number(32, 2)), api.ErrForm},
		{joined([]byte{0, 0, 0}, number(32, 8)), api.ErrForm},
		// Styles that may not be; that is told ahead of what is wrong with the number.
		{[]byte{0, 1, 0, 32}, api.ErrForm},
		{[]byte{0, 0, 63, 32}, api.ErrForm},
		{[]byte{0, 1, 0}, api.ErrForm},
		{[]byte{0, 0, 1}, api.ErrForm},
		{joined([]byte{0, 0}, least(0x1000100), []byte{32}), api.ErrForm},
		{joined([]byte{0}, least(1<<32), []byte{0, 32}), api.ErrForm},
		{joined([]byte{0}, least(1<<32+0x1000000), []byte{0, 32}), api.ErrForm},
		{[]byte{0, 1, 64}, api.ErrShort},
		// Numbers of no point, also such as would be one, if they were cut.
		{joined([]byte{0, 0, 0}, least(0xD800)), api.ErrForm},
		{joined([]byte{0, 0, 0}, least(0xDFFF)), api.ErrForm},
		{joined([]byte{0, 0, 0}, least(0x110000)), api.ErrForm},
		{joined([]byte{0, 0, 0}, least(math.MaxInt32)), api.ErrForm},
		{joined([]byte{0, 0, 0}, least(1<<31)), api.ErrForm},
		{joined([]byte{0, 0, 0}, least(1<<32-1)), api.ErrForm},
		{joined([]byte{0, 0, 0}, least(1<<32)), api.ErrForm},
		{joined([]byte{0, 0, 0}, least(1<<32+32)), api.ErrForm},
		{joined([]byte{0, 0, 0}, least(5<<32+'a')), api.ErrForm},
		{joined([]byte{0, 0, 0}, least(1<<40)), api.ErrForm},
		{joined([]byte{0, 0, 0}, least(api.MaxVint)), api.ErrForm},
		// Numbers that are cut.
		{joined([]byte{0, 0, 0}, least(0x1F600)[:3]), api.ErrShort},
		{joined([]byte{0, 0, 0}, least(64)[:1]), api.ErrShort},
		{joined([]byte{0, 0, 0}, least(api.MaxVint)[:7]), api.ErrShort},
	} {
		wantCell(t, x.b, 0, grid.Cell{}, 0, x.e)
		wantCell(t, joined([]byte{1, 2, 3}, x.b), 3, grid.Cell{}, 0, x.e)
	}
}

// P20.2: views' bytes.
func TestWrite(t *testing.T) {
	blank := []byte{0, 0, 0, 32}
	for _, x := range []struct {
		v    view.View
		want []byte
	}{
		{view.First(), []byte{1, 1, 0, 0, 1, 1, 0, 0, 0, 32}},
		{view.View{Rows: 1, Cols: 1, Cells: letters("a")}, []byte{1, 1, 0, 0, 0, 1, 0, 0, 0, 64, 97}},
		{view.View{Rows: 1, Cols: 3, Cells: letters("   "), Col: 2}, joined([]byte{1, 3, 0, 2, 0, 3}, blank)},
		{view.View{Rows: 1, Cols: 3, Cells: letters(" ! ")}, joined([]byte{1, 3, 0, 0, 0, 1}, blank, []byte{1, 0, 0, 0, 33, 1}, blank)},
		{view.View{Rows: 1, Cols: 4, Cells: letters("  !!")}, joined([]byte{1, 4, 0, 0, 0, 2}, blank, []byte{2, 0, 0, 0, 33})},
		{view.View{Rows: 1, Cols: 4, Cells: letters("!  !")}, joined([]byte{1, 4, 0, 0, 0, 1, 0, 0, 0, 33, 2}, blank, []byte{1, 0, 0, 0, 33})},
		// Equal ones go on in the next row.
		{view.View{Rows: 2, Cols: 2, Cells: letters("!   "), Row: 1}, joined([]byte{2, 2, 1, 0, 0, 1, 0, 0, 0, 33, 3}, blank)},
		{view.View{Rows: 12, Cols: 40, Cells: slices.Repeat(letters(" "), 480), Row: 11, Col: 39, Visible: true}, joined([]byte{12, 40, 11, 39, 1, 65, 224}, blank)},
		{view.View{Rows: 8, Cols: 8, Cells: slices.Repeat(letters(" "), 64)}, joined([]byte{8, 8, 0, 0, 0, 64, 64}, blank)},
		{view.View{Rows: 7, Cols: 9, Cells: slices.Repeat(letters(" "), 63)}, joined([]byte{7, 9, 0, 0, 0, 63}, blank)},
		// Those that are unlike in one thing are not equal.
		{view.View{Rows: 1, Cols: 4, Cells: []grid.Cell{{Point: 32}, {Point: 32, Style: style.Style{Flags: 255}}, {Point: 32, Style: style.Style{Fg: 0x1000002}}, {Point: 32, Style: style.Style{Bg: 0x2000003}}}},
			joined([]byte{1, 4, 0, 0, 0, 1}, blank, []byte{1, 255, 0, 0, 32, 1, 0, 129, 0, 0, 2, 0, 32, 1, 0, 0, 130, 0, 0, 3, 32})},
	} {
		if b := thereAndBack(t, x.v); !bytes.Equal(b, x.want) {
			t.Errorf("%+v: %v, want %v", x.v, b, x.want)
		}
	}
}

// P20.3: views go there and back, in one way alone.
func TestThereAndBack(t *testing.T) {
	r := rand.New(rand.NewSource(203))
	for range 1000 {
		b := thereAndBack(t, anyView(r))
		// What is read of anything else is written as just that.
		for range 20 {
			turned := bytes.Clone(b)
			switch at := r.Intn(len(b)); r.Intn(4) {
			case 0:
				turned[at] = byte(r.Intn(256))
			case 1:
				turned[at] ^= 1 << r.Intn(8)
			case 2:
				turned = slices.Delete(turned, at, min(len(b), at+1+r.Intn(6)))
			default:
				turned = slices.Insert(turned, at, b[max(0, at-r.Intn(7)):at]...)
			}
			wantRead(t, turned)
		}
	}
}

// wantRead holds what is read against the one view that may be written so, if there is one.
func wantRead(t *testing.T, b []byte) {
	t.Helper()
	was := bytes.Clone(b)
	v, e := view.Read(b)
	switch {
	case !bytes.Equal(b, was):
		t.Fatalf("Read changed %v to %v", was, b)
	case e == api.ErrForm && empty(v):
		if v, ok := loose(b); ok && view.Right(v) && bytes.Equal(wordedWrite(v), b) {
			t.Fatalf("Read(%v): %v, but it is %+v", b, e, v)
		}
	case e != api.OK || !view.Right(v) || !bytes.Equal(wordedWrite(v), b):
		t.Fatalf("Read(%v): %+v, %v", b, v, e)
	}
}

// loose reads bytes as a view without asking whether that may be.
func loose(b []byte) (view.View, bool) {
	if len(b) < 5 {
		return view.View{}, false
	}
	v := view.View{Rows: int(b[0]), Cols: int(b[1]), Row: int(b[2]), Col: int(b[3]), Visible: b[4] != 0}
	take := func() (n uint64) {
		size := 1
		if len(b) > 0 {
			size = 1 << (b[0] >> 6)
		}
		for i := range size {
			if len(b) == 0 {
				return 0
			}
			if i == 0 {
				n = uint64(b[0] & 63)
			} else {
				n = n<<8 | uint64(b[0])
			}
			b = b[1:]
		}
		return n
	}
	for b = b[5:]; len(b) > 0; {
		n := take()
		if n > 480 || len(b) == 0 {
			return view.View{}, false
		}
		c := grid.Cell{Style: style.Style{Flags: b[0]}}
		b = b[1:]
		c.Style.Fg, c.Style.Bg, c.Point = uint32(take()), uint32(take()), int32(take())
		v.Cells = append(v.Cells, slices.Repeat([]grid.Cell{c}, int(n))...)
	}
	return v, true
}

// P20.2: bytes that are no view's.
func TestReadFaults(t *testing.T) {
	blank, mark := []byte{0, 0, 0, 32}, []byte{0, 0, 0, 33}
	head := []byte{2, 3, 1, 2, 1}
	right := joined(head, []byte{4}, blank, []byte{2}, mark)
	if v, e := view.Read(right); e != api.OK || !equal(v, view.View{Rows: 2, Cols: 3, Cells: letters("    !!"), Row: 1, Col: 2, Visible: true}) {
		t.Fatalf("%+v, %v", v, e)
	}
	wrong := func(name string, b []byte) {
		t.Helper()
		if v, e := view.Read(b); !empty(v) || e != api.ErrForm {
			t.Errorf("%s: Read(%v): %+v, %v", name, b, v, e)
		}
	}
	for n := range right {
		wrong("cut", right[:n])
	}
	for c := range 256 {
		wrong("more", append(bytes.Clone(right), byte(c)))
	}
	wrong("a cell more", joined(right, []byte{1}, blank))
	wrong("a run of none behind", joined(right, []byte{0}, blank))
	wrong("a run of none ahead", joined(head, []byte{0}, mark, []byte{4}, blank, []byte{2}, mark))
	wrong("a run of none between", joined(head, []byte{4}, blank, []byte{0}, blank, []byte{2}, mark))
	wrong("too many", joined(head, []byte{4}, blank, []byte{3}, mark))
	wrong("too many at once", joined(head, []byte{7}, blank))
	wrong("too few", joined(head, []byte{4}, blank, []byte{1}, mark))
	wrong("too few at once", joined(head, []byte{5}, blank))
	wrong("equal ones apart", joined(head, []byte{4}, blank, []byte{2}, blank))
	wrong("equal ones apart, one first", joined(head, []byte{1}, blank, []byte{5}, blank))
	wrong("equal ones apart, behind", joined(head, []byte{4}, blank, []byte{1}, mark, []byte{1}, mark))
	wrong("no cells", head)
	wrong("nothing", nil)
	for _, size := range []int{2, 4, 8} {
		wrong("a long count", joined(head, number(6, size), blank))
		wrong("a long point", joined(head, []byte{6, 0, 0, 0}, number(32, size)))
		wrong("a long colour", joined(head, []byte{6, 0, 0}, number(0, size), []byte{32}))
	}
	for _, n := range []uint64{1 << 31, 1<<32 + 6, 1 << 61, api.MaxVint} {
		wrong("a great count", joined(head, least(n), blank))
	}
	for _, cell := range [][]byte{{0, 1, 0, 32}, {0, 0, 1, 32}, joined([]byte{0, 0, 0}, least(0xD800)), joined([]byte{0, 0, 0}, least(0x110000)), joined([]byte{0, 0, 0}, least(1<<32+32)), joined([]byte{0, 0, 0}, least(api.MaxVint))} {
		wrong("a wrong cell", joined(head, []byte{6}, cell))
		wrong("a wrong last cell", joined(head, []byte{4}, blank, []byte{2}, cell))
	}
}

// P20.2: each byte at each place ahead of the cells.
func TestReadHead(t *testing.T) {
	blank := []byte{0, 0, 0, 32}
	right := 0
	for rows := range 256 {
		for cols := range 256 {
			b := joined([]byte{byte(rows), byte(cols), 0, 0, 0}, least(uint64(rows*cols)), blank)
			v, e := view.Read(b)
			if rows >= 1 && rows <= 12 && cols >= 1 && cols <= 40 {
				right++
				if e != api.OK || !equal(v, view.View{Rows: rows, Cols: cols, Cells: slices.Repeat(letters(" "), rows*cols)}) {
					t.Fatalf("%v: %v, %v", b, v, e)
				}
			} else if e != api.ErrForm || !empty(v) {
				t.Fatalf("%v: %v, %v", b, v, e)
			}
		}
	}
	if right != 480 {
		t.Errorf("%d were right", right)
	}
	for c := range 256 {
		for at, most := range map[int]int{2: 4, 3: 6, 4: 2} {
			b := joined([]byte{4, 6, 3, 5, 1, 24}, blank)
			b[at] = byte(c)
			if _, e := view.Read(b); (e == api.OK) != (c < most) {
				t.Errorf("%v: %v", b, e)
			}
			wantRead(t, b)
		}
	}
	// No cells at all are no view's.
	for _, b := range [][]byte{{0, 0, 0, 0, 0}, {0, 1, 0, 0, 0}, {1, 0, 0, 0, 0}, {0, 0, 0, 0, 1}} {
		wantRead(t, b)
		if _, e := view.Read(b); e != api.ErrForm {
			t.Errorf("%v: %v", b, e)
		}
	}
}

// Rules 4, 5 and 7: what is handed in is neither changed nor kept, nor read behind its length; what is handed out is new.
func TestMemory(t *testing.T) {
	r := rand.New(rand.NewSource(205))
	for range 200 {
		v := anyView(r)
		room := append(slices.Clone(v.Cells), letter('z'), letter('z'))
		a, b := v, v
		a.Cells = room[:len(v.Cells)]
		b.Cells = slices.Clip(slices.Clone(v.Cells))
		x, e := view.Write(a)
		y, e2 := view.Write(b)
		if e != api.OK || e2 != api.OK || !bytes.Equal(x, y) || !view.Same(a, b) || !equal(a, v) {
			t.Fatalf("%+v: %v, %v", v, x, y)
		}
		more := append(bytes.Clone(x), 1, 2, 3)
		one, e := view.Read(more[:len(x)])
		two, e2 := view.Read(x)
		if e != api.OK || e2 != api.OK || !equal(one, two) {
			t.Fatalf("%v: %+v, %+v", x, one, two)
		}
		for i := range x {
			x[i] = 0xFF
		}
		for i := range one.Cells {
			one.Cells[i] = letter('q')
		}
		if !equal(two, v) || !equal(a, v) || room[len(v.Cells)] != letter('z') || !bytes.Equal(y, wordedWrite(v)) {
			t.Fatalf("%+v was changed", v)
		}
	}
	c := grid.Cell{Point: 'x'}
	x, _ := view.PutCell(c)
	y, _ := view.PutCell(c)
	x[0] = 9
	if !bytes.Equal(y, wordedCell(c)) {
		t.Errorf("%v", y)
	}
}
