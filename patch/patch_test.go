package patch_test

import (
	"bytes"
	"fmt"
	"math"
	"math/rand"
	"slices"
	"testing"

	"longline/api"
	"longline/grid"
	"longline/patch"
	"longline/style"
	"longline/view"
)

// number is a number's bytes, in so many of them as are asked for, which may be more than it needs.
func number(v uint64, size int) []byte {
	mark := map[int]uint64{1: 0, 2: 1, 4: 2, 8: 3}[size]
	v |= mark << (8*size - 2)
	var b []byte
	for i := size - 1; i >= 0; i-- {
		b = append(b, byte(v>>(8*i)))
	}
	return b
}

// least is a number's bytes, as few as there may be.
func least(v uint64) []byte {
	for _, size := range []int{1, 2, 4} {
		if v < 1<<(8*size-2) {
			return number(v, size)
		}
	}
	return number(v, 8)
}

func joined(l ...[]byte) []byte { return bytes.Join(l, nil) }

// cellBytes are a cell's bytes, as the document words them.
func cellBytes(c grid.Cell) []byte {
	return joined([]byte{c.Style.Flags}, least(uint64(c.Style.Fg)), least(uint64(c.Style.Bg)), least(uint64(c.Point)))
}

// runBytes are a run's bytes.
func runBytes(gap int, cells ...grid.Cell) []byte {
	b := joined(least(uint64(gap)), least(uint64(len(cells))))
	for _, c := range cells {
		b = append(b, cellBytes(c)...)
	}
	return b
}

// ahead are the five bytes ahead of the runs.
func ahead(v view.View) []byte {
	b := []byte{byte(v.Rows), byte(v.Cols), byte(v.Row), byte(v.Col), 0}
	if v.Visible {
		b[4] = 1
	}
	return b
}

// against are the cells that a patch from a view to one of so many rows and columns is told against.
func against(a view.View, rows, cols int) []grid.Cell {
	if a.Rows == rows && a.Cols == cols {
		return slices.Clone(a.Cells)
	}
	var l []grid.Cell
	for range rows * cols {
		l = append(l, grid.Cell{Point: 32})
	}
	return l
}

// worded is the patch between views that may be, as the document words it, and how many runs it has.
func worded(a, b view.View) ([]byte, int) {
	old := against(a, b.Rows, b.Cols)
	p, runs, gap := ahead(b), 0, 0
	var now []grid.Cell
	flush := func() {
		if len(now) > 0 {
			p = append(p, runBytes(gap, now...)...)
			gap, now, runs = 0, nil, runs+1
		}
	}
	for i, c := range b.Cells {
		if c == old[i] {
			flush()
			gap++
		} else {
			now = append(now, c)
		}
	}
	flush()
	return p, runs
}

// takeNumber takes a number from the front of bytes, and tells whether it is one.
func takeNumber(b []byte) (uint64, []byte, bool) {
	if len(b) == 0 {
		return 0, nil, false
	}
	n := 1 << (b[0] >> 6)
	if len(b) < n {
		return 0, nil, false
	}
	v := uint64(b[0] & 63)
	for _, c := range b[1:n] {
		v = v*256 + uint64(c)
	}
	return v, b[n:], len(least(v)) == n
}

func isColour(c uint64) bool {
	return c == 0 || c>>8 == 0x10000 || c>>24 == 2
}

func isPoint(p uint64) bool { return p < 0xD800 || p > 0xDFFF && p <= 0x10FFFF }

// takeCell takes a cell from the front of bytes, and tells whether it is one.
func takeCell(b []byte) (grid.Cell, []byte, bool) {
	if len(b) == 0 {
		return grid.Cell{}, nil, false
	}
	flags := b[0]
	fg, b, ok1 := takeNumber(b[1:])
	bg, b, ok2 := takeNumber(b)
	point, b, ok3 := takeNumber(b)
	ok := ok1 && ok2 && ok3 && isColour(fg) && isColour(bg) && isPoint(point)
	return grid.Cell{Point: int32(point), Style: style.Style{Flags: flags, Fg: uint32(fg), Bg: uint32(bg)}}, b, ok
}

// wordedRuns is how many runs a patch has, or below 0.
func wordedRuns(p []byte) int {
	if len(p) < 5 {
		return -1
	}
	n := 0
	for b := p[5:]; len(b) > 0; n++ {
		_, rest, ok1 := takeNumber(b)
		count, rest, ok2 := takeNumber(rest)
		if !ok1 || !ok2 || count == 0 {
			return -1
		}
		for range count {
			var ok bool
			if _, rest, ok = takeCell(rest); !ok {
				return -1
			}
		}
		b = rest
	}
	return n
}

// wordedApply reads what a patch might mean, and holds the patch of that against it.
func wordedApply(a view.View, p []byte) (view.View, bool) {
	if wordedRuns(p) < 0 {
		return view.View{}, false
	}
	v := view.View{Rows: int(p[0]), Cols: int(p[1]), Row: int(p[2]), Col: int(p[3]), Visible: p[4] == 1}
	if v.Rows > 12 || v.Cols > 40 {
		return view.View{}, false
	}
	v.Cells = against(a, v.Rows, v.Cols)
	place := uint64(0)
	for b := p[5:]; len(b) > 0; {
		gap, rest, _ := takeNumber(b)
		count, rest, _ := takeNumber(rest)
		place += gap
		for range count {
			if place >= uint64(len(v.Cells)) {
				return view.View{}, false
			}
			v.Cells[place], rest, _ = takeCell(rest)
			place++
		}
		b = rest
	}
	if !view.Right(v) {
		return view.View{}, false
	}
	only, _ := worded(a, v)
	return v, bytes.Equal(only, p)
}

// goodPoints and goodColours are about all borders.
var (
	goodPoints  = []int32{0, 1, 32, 63, 64, 127, 128, 0x3FFF, 0x4000, 0xD7FF, 0xE000, 0xFFFD, 0x10000, 0x10FFFF}
	goodColours = []uint32{0, 0x1000000, 0x1000001, 0x10000FF, 0x2000000, 0x2FFFFFF, 0x2010203}
)

func letter(p int32) grid.Cell { return grid.Cell{Point: p} }

// letters are the cells of a text.
func letters(s string) []grid.Cell {
	var l []grid.Cell
	for _, p := range s {
		l = append(l, letter(p))
	}
	return l
}

// anyCell is one of a few, or any that may be.
func anyCell(r *rand.Rand) grid.Cell {
	if r.Intn(2) == 0 {
		return letter([]int32{' ', 'a', 0x20AC}[r.Intn(3)])
	}
	return grid.Cell{Point: goodPoints[r.Intn(len(goodPoints))], Style: style.Style{Flags: uint8(r.Intn(256)), Fg: goodColours[r.Intn(len(goodColours))], Bg: goodColours[r.Intn(len(goodColours))]}}
}

// anyView is one that may be.
func anyView(r *rand.Rand) view.View {
	v := view.View{Rows: 1 + r.Intn(3), Cols: 1 + r.Intn(4), Visible: r.Intn(2) == 0}
	if r.Intn(8) == 0 {
		v.Rows, v.Cols = 1+r.Intn(12), 1+r.Intn(40)
	}
	v.Row, v.Col = r.Intn(v.Rows), r.Intn(v.Cols)
	for len(v.Cells) < v.Rows*v.Cols {
		v.Cells = append(v.Cells, anyCell(r))
	}
	return v
}

// turned is a view of the same size with some cells others.
func turned(r *rand.Rand, v view.View) view.View {
	v.Cells = slices.Clone(v.Cells)
	v.Visible = r.Intn(2) == 0
	v.Row, v.Col = r.Intn(v.Rows), r.Intn(v.Cols)
	for range r.Intn(4) {
		from := r.Intn(len(v.Cells))
		for i := from; i < min(len(v.Cells), from+1+r.Intn(5)); i++ {
			v.Cells[i] = anyCell(r)
		}
	}
	return v
}

// equal holds views against each other, without Same.
func equal(a, b view.View) bool {
	return fmt.Sprint(a.Rows, a.Cols, a.Row, a.Col, a.Visible, a.Cells) == fmt.Sprint(b.Rows, b.Cols, b.Row, b.Col, b.Visible, b.Cells)
}

func empty(v view.View) bool {
	return v.Rows == 0 && v.Cols == 0 && len(v.Cells) == 0 && v.Row == 0 && v.Col == 0 && !v.Visible
}

// small is a view of two rows of three letters.
func small() view.View {
	return view.View{Rows: 2, Cols: 3, Cells: letters("abcdef"), Row: 1, Col: 2, Visible: true}
}

// with is small with other letters.
func with(s string) view.View {
	v := small()
	v.Cells = letters(s)
	return v
}

// sized is a view of so many rows and columns with these letters.
func sized(rows, cols int, s string) view.View {
	return view.View{Rows: rows, Cols: cols, Cells: letters(s)}
}

// there holds a patch against what it is to be, and goes there and back.
func there(t *testing.T, name string, a, b view.View, want []byte, runs int) {
	t.Helper()
	p, e := patch.Diff(a, b)
	if e != api.OK || !bytes.Equal(p, want) {
		t.Errorf("%s: %v, %v, want %v", name, p, e, want)
	}
	if v, e := patch.Apply(a, want); e != api.OK || !equal(v, b) {
		t.Errorf("%s: applied %+v, %v", name, v, e)
	}
	if n, e := patch.Runs(want); e != api.OK || n != runs {
		t.Errorf("%s: %d runs, %v, want %d", name, n, e, runs)
	}
}

// P21.1, P21.2, P21.3, the example: patches by hand.
func TestByHand(t *testing.T) {
	there(t, "first", view.First(), view.First(), []byte{1, 1, 0, 0, 1}, 0)
	a := small()
	there(t, "itself", a, a, []byte{2, 3, 1, 2, 1}, 0)
	x := []byte{0, 0, 0, 0x40, 'x'}
	y := []byte{0, 0, 0, 0x40, 'y'}
	there(t, "one at the beginning", a, with("xbcdef"), joined([]byte{2, 3, 1, 2, 1, 0, 1}, x), 1)
	there(t, "one at the end", a, with("abcdex"), joined([]byte{2, 3, 1, 2, 1, 5, 1}, x), 1)
	there(t, "across rows", a, with("abxyef"), joined([]byte{2, 3, 1, 2, 1, 2, 2}, x, y), 1)
	there(t, "two runs", a, with("axcdyx"), joined([]byte{2, 3, 1, 2, 1, 1, 1}, x, []byte{2, 2}, y, x), 2)
	there(t, "three runs", a, with("xbxdxf"), joined([]byte{2, 3, 1, 2, 1, 0, 1}, x, []byte{1, 1}, x, []byte{1, 1}, x), 3)
	there(t, "all", a, with("xxxxxx"), joined([]byte{2, 3, 1, 2, 1, 0, 6}, x, x, x, x, x, x), 1)
	there(t, "blanks", a, with("      "), joined([]byte{2, 3, 1, 2, 1, 0, 6}, bytes.Repeat([]byte{0, 0, 0, 32}, 6)), 1)
	b := small()
	b.Row, b.Col, b.Visible = 0, 1, false
	there(t, "cursor alone", a, b, []byte{2, 3, 0, 1, 0}, 0)
	b = small()
	b.Cells[4].Style = style.Style{Flags: 1, Fg: 0x1000001, Bg: 0x2010203}
	there(t, "style alone", a, b, []byte{2, 3, 1, 2, 1, 4, 1, 1, 0x81, 0, 0, 1, 0x82, 1, 2, 3, 0x40, 'e'}, 1)
}

// P21.1, P21.2: of another size, the cells are told against blank ones, also when as many.
func TestSizes(t *testing.T) {
	a := small()
	cell := func(p byte) []byte { return []byte{0, 0, 0, 0x40, p} }
	there(t, "turned", a, sized(3, 2, "abcdef"), joined([]byte{3, 2, 0, 0, 0, 0, 6}, cell('a'), cell('b'), cell('c'), cell('d'), cell('e'), cell('f')), 1)
	there(t, "more rows", a, sized(3, 3, "a       f"), joined([]byte{3, 3, 0, 0, 0, 0, 1}, cell('a'), []byte{7, 1}, cell('f')), 2)
	there(t, "fewer rows", a, sized(1, 3, "abc"), joined([]byte{1, 3, 0, 0, 0, 0, 3}, cell('a'), cell('b'), cell('c')), 1)
	there(t, "more columns", a, sized(2, 4, "    a   "), joined([]byte{2, 4, 0, 0, 0, 4, 1}, cell('a')), 1)
	there(t, "fewer columns", a, sized(2, 2, "  de"), joined([]byte{2, 2, 0, 0, 0, 2, 2}, cell('d'), cell('e')), 1)
	there(t, "blank", a, sized(2, 2, "    "), []byte{2, 2, 0, 0, 0}, 0)
	b := sized(1, 2, "  ")
	b.Cells[1].Style.Bg = 0x1000000
	there(t, "a blank that has a colour", a, b, []byte{1, 2, 0, 0, 0, 1, 1, 0, 0, 0x81, 0, 0, 0, 32}, 1)
	// Of the same size, what is as it was stays, blank or not.
	there(t, "to letters", sized(1, 3, "   "), sized(1, 3, " a "), joined([]byte{1, 3, 0, 0, 0, 1, 1}, cell('a')), 1)
	there(t, "to blanks", sized(1, 3, "abc"), sized(1, 3, "a c"), []byte{1, 3, 0, 0, 0, 1, 1, 0, 0, 0, 32}, 1)
}

// badViews are views that may not be, each for one thing.
func badViews() map[string]view.View {
	l := map[string]view.View{}
	put := func(name string, change func(v *view.View)) {
		v := small()
		change(&v)
		l[name] = v
	}
	put("nothing", func(v *view.View) { *v = view.View{} })
	put("no rows", func(v *view.View) { v.Rows, v.Cells, v.Row = 0, nil, 0 })
	put("no columns", func(v *view.View) { v.Cols, v.Cells, v.Col = 0, nil, 0 })
	put("rows below 0", func(v *view.View) { v.Rows, v.Cols = -2, -3 })
	put("many rows", func(v *view.View) { v.Rows, v.Cols, v.Cells, v.Col = 13, 1, letters("abcdefghijklm"), 0 })
	put("many columns", func(v *view.View) { v.Rows, v.Cols, v.Cells, v.Row = 1, 41, slices.Repeat(letters("a"), 41), 0 })
	put("far too many", func(v *view.View) { v.Rows, v.Cols = math.MaxInt, math.MaxInt })
	put("row below 0", func(v *view.View) { v.Row = -1 })
	put("row below the last one", func(v *view.View) { v.Row = 2 })
	put("column below 0", func(v *view.View) { v.Col = -1 })
	put("column behind the last one", func(v *view.View) { v.Col = 3 })
	put("a cell less", func(v *view.View) { v.Cells = v.Cells[:5] })
	put("a cell more", func(v *view.View) { v.Cells = append(v.Cells, letter('g')) })
	put("no cells", func(v *view.View) { v.Cells = nil })
	put("no point", func(v *view.View) { v.Cells[5].Point = 0xD800 })
	put("a point below 0", func(v *view.View) { v.Cells[0].Point = -1 })
	put("no colour", func(v *view.View) { v.Cells[3].Style.Fg = 7 })
	put("no ground", func(v *view.View) { v.Cells[3].Style.Bg = 0x3000000 })
	return l
}

// P21.1, P21.2: views that may not be.
func TestWrongViews(t *testing.T) {
	for name, bad := range badViews() {
		for _, good := range []view.View{small(), view.First(), bad} {
			if p, e := patch.Diff(bad, good); len(p) != 0 || e != api.ErrForm {
				t.Errorf("from %s: %v, %v", name, p, e)
			}
			if p, e := patch.Diff(good, bad); len(p) != 0 || e != api.ErrForm {
				t.Errorf("to %s: %v, %v", name, p, e)
			}
		}
		for _, p := range [][]byte{{2, 3, 1, 2, 1}, {1, 1, 0, 0, 1}, ahead(bad), nil} {
			if v, e := patch.Apply(bad, p); !empty(v) || e != api.ErrForm {
				t.Errorf("%s and %v: %+v, %v", name, p, v, e)
			}
		}
	}
}

// P21.2: what is no patch from small to some view; runs is how many runs it has all the same, or below 0.
func TestWrongPatches(t *testing.T) {
	five := []byte{2, 3, 1, 2, 1}
	x, b := runBytes(0, letter('x')), letter('b')
	big := func(v uint64) []byte { return least(v) }
	for _, c := range []struct {
		name string
		p    []byte
		runs int
	}{
		{"nothing", nil, -1},
		{"no bytes", []byte{}, -1},
		{"one byte", five[:1], -1},
		{"four bytes", five[:4], -1},
		{"no rows", []byte{0, 3, 0, 0, 1}, 0},
		{"no columns", []byte{2, 0, 0, 0, 1}, 0},
		{"many rows", []byte{13, 3, 0, 0, 1}, 0},
		{"many columns", []byte{2, 41, 0, 0, 1}, 0},
		{"most of all", []byte{255, 255, 0, 0, 1}, 0},
		{"no such row", []byte{2, 3, 2, 2, 1}, 0},
		{"no such column", []byte{2, 3, 1, 3, 1}, 0},
		{"no such row, of another size", []byte{3, 2, 3, 1, 1}, 0},
		{"visible twice", []byte{2, 3, 1, 2, 2}, 0},
		{"visible most", []byte{2, 3, 1, 2, 255}, 0},
		{"no run of a byte", joined(five, []byte{0}), -1},
		{"a gap alone", joined(five, []byte{3}), -1},
		{"a run of no cells", joined(five, []byte{0, 0}), -1},
		{"a run of no cells behind a gap", joined(five, []byte{6, 0}), -1},
		{"a run of no cells behind one", joined(five, x, []byte{1, 0}), -1},
		{"a run without cells", joined(five, []byte{0, 1}), -1},
		{"a run without its last cell", joined(five, []byte{0, 2, 0, 0, 0, 0x40, 'x'}), -1},
		{"a cell cut", joined(five, x[:len(x)-1]), -1},
		{"a byte behind", joined(five, x, []byte{0}), -1},
		{"a long gap", joined(five, []byte{0x40, 0, 1, 0, 0, 0, 0x40, 'x'}), -1},
		{"a long count", joined(five, []byte{0, 0x40, 1, 0, 0, 0, 0x40, 'x'}), -1},
		{"a long point", joined(five, []byte{0, 1, 0, 0, 0, 0x40, 32}), -1},
		{"a gap cut", joined(five, []byte{0x40}), -1},
		{"a count cut", joined(five, []byte{0, 0x80, 1}), -1},
		{"no colour", joined(five, []byte{0, 1, 0, 7, 0, 0x40, 'x'}), -1},
		{"no point", joined(five, []byte{0, 1, 0, 0, 0, 0x80, 0, 0xD8, 0}), -1},
		{"a point too great for a cell", joined(five, []byte{0, 1, 0, 0, 0}, big(1<<32+'x')), -1},
		{"a cell as it was", joined(five, runBytes(1, b)), 1},
		{"a cell as it was behind another one", joined(five, runBytes(0, letter('x'), b)), 1},
		{"a cell as it was ahead of another one", joined(five, runBytes(1, b, letter('x'))), 1},
		{"a cell as it was between", joined(five, runBytes(0, letter('x'), b, letter('x'))), 1},
		{"runs that touch", joined(five, x, x), 2},
		{"runs that touch, later", joined(five, runBytes(1, letter('x')), x, runBytes(1, letter('x'))), 3},
		{"a gap to the end", joined(five, runBytes(6, letter('x'))), 1},
		{"a gap beyond the end", joined(five, runBytes(7, letter('x'))), 1},
		{"a gap of very many", joined(five, big(api.MaxVint), big(1), cellBytes(letter('x'))), 1},
		{"a run beyond the end", joined(five, runBytes(5, letter('x'), letter('x'))), 1},
		{"a second run beyond the end", joined(five, runBytes(2, letter('x'), letter('x')), runBytes(1, letter('x'), letter('x'))), 2},
		{"a second gap to the end", joined(five, runBytes(0, letter('x')), runBytes(5, letter('x'))), 2},
		{"a count of very many", joined(five, big(0), big(api.MaxVint), cellBytes(letter('x'))), -1},
		{"blank against blanks", joined([]byte{3, 2, 0, 0, 1}, runBytes(0, letter(' '))), 1},
		{"seven cells in six", joined([]byte{3, 2, 0, 0, 1}, runBytes(0, letters("xxxxxxx")...)), 1},
	} {
		if v, e := patch.Apply(small(), c.p); !empty(v) || e != api.ErrForm {
			t.Errorf("%s: %+v, %v", c.name, v, e)
		}
		n, e := patch.Runs(c.p)
		if c.runs < 0 && (n != 0 || e != api.ErrForm) || c.runs >= 0 && (n != c.runs || e != api.OK) {
			t.Errorf("%s: %d runs, %v, want %d", c.name, n, e, c.runs)
		}
	}
	// A patch of one view is none of another one.
	p, _ := patch.Diff(small(), with("xbcdef"))
	if v, e := patch.Apply(with("xbcdef"), p); !empty(v) || e != api.ErrForm {
		t.Errorf("to what is so already: %+v, %v", v, e)
	}
	if v, e := patch.Apply(with("yyyyyy"), p); e != api.OK || !equal(v, with("xyyyyy")) {
		t.Errorf("from another view: %+v, %v", v, e)
	}
}

// P21.1: all cells count, at each place, for each of their things.
func TestEachCell(t *testing.T) {
	a := view.View{Rows: 12, Cols: 40, Cells: slices.Repeat(letters("a"), 480)}
	for i := range a.Cells {
		for _, c := range []grid.Cell{letter('b'), {Point: 'a', Style: style.Style{Flags: 128}}, {Point: 'a', Style: style.Style{Fg: 0x1000000}}, {Point: 'a', Style: style.Style{Bg: 0x2000000}}} {
			b := a
			b.Cells = slices.Clone(a.Cells)
			b.Cells[i] = c
			there(t, fmt.Sprint("cell ", i), a, b, joined([]byte{12, 40, 0, 0, 0}, runBytes(i, c)), 1)
		}
	}
}

// P21.1 to P21.4: views at random, there and back, and against the document's words.
func TestWorded(t *testing.T) {
	r := rand.New(rand.NewSource(21))
	for range 6000 {
		a := anyView(r)
		b := anyView(r)
		if r.Intn(2) == 0 {
			b = turned(r, a)
		}
		want, runs := worded(a, b)
		there(t, "at random", a, b, want, runs)
		if len(want) > patch.Most {
			t.Errorf("%d bytes", len(want))
		}
		there(t, "to itself", a, a, ahead(a), 0)
		if t.Failed() {
			t.Fatalf("from %+v to %+v", a, b)
		}
	}
}

// spoiled is a patch with something in it changed.
func spoiled(r *rand.Rand, p []byte) []byte {
	p = slices.Clone(p)
	at := r.Intn(len(p))
	switch r.Intn(8) {
	case 0:
		p[at] ^= 1 << r.Intn(8)
	case 1:
		p[at] = byte(r.Intn(4))
	case 2:
		p = p[:at]
	case 3:
		p = slices.Insert(p, at, byte(r.Intn(70)))
	case 4:
		p = slices.Delete(p, at, at+1)
	case 5:
		p = append(p, runBytes(r.Intn(3), anyCell(r))...)
	case 6:
		p = slices.Replace(p, at, at+1, number(uint64(p[at]), []int{2, 4, 8}[r.Intn(3)])...)
	case 7:
		p = slices.Insert(p, min(5, len(p)), runBytes(r.Intn(2), anyCell(r))...)
	}
	return p
}

// P21.2: patches that were spoiled, and any bytes, against the document's words.
func TestSpoiled(t *testing.T) {
	r := rand.New(rand.NewSource(212))
	good := 0
	for range 40000 {
		a := anyView(r)
		p := []byte{byte(1 + r.Intn(3)), byte(1 + r.Intn(3)), 0, 0, byte(r.Intn(2))}
		if r.Intn(10) > 0 {
			p, _ = worded(a, turned(r, a))
		}
		for range 1 + r.Intn(2) {
			if len(p) > 0 {
				p = spoiled(r, p)
			}
		}
		want, ok := wordedApply(a, p)
		v, e := patch.Apply(a, p)
		if ok && (e != api.OK || !equal(v, want)) || !ok && (e != api.ErrForm || !empty(v)) {
			t.Fatalf("from %+v by %v: %+v, %v, want %+v, %v", a, p, v, e, want, ok)
		}
		n, e := patch.Runs(p)
		if runs := wordedRuns(p); runs < 0 && (e != api.ErrForm || n != 0) || runs >= 0 && (e != api.OK || n != runs) {
			t.Fatalf("%v: %d runs, %v, want %d", p, n, e, runs)
		}
		if ok {
			good++
		}
	}
	if good < 1000 {
		t.Errorf("%d good ones", good)
	}
}

// P21.4: the longest patches.
func TestMost(t *testing.T) {
	long := grid.Cell{Point: 0x10FFFF, Style: style.Style{Flags: 255, Fg: 0x2FFFFFF, Bg: 0x2FFFFFF}}
	a := view.View{Rows: 12, Cols: 40, Cells: slices.Repeat(letters("a"), 480)}
	for every := range 5 {
		b := a
		b.Cells = slices.Clone(a.Cells)
		for i := range b.Cells {
			if every == 0 || i%(every+1) > 0 {
				b.Cells[i] = long
			}
		}
		want, runs := worded(a, b)
		there(t, fmt.Sprint("every ", every), a, b, want, runs)
		if p, _ := patch.Diff(a, b); len(p) > patch.Most || len(p) < 2000 {
			t.Errorf("every %d: %d bytes", every, len(p))
		}
	}
	if patch.Most != 8192 {
		t.Errorf("%d", patch.Most)
	}
}

// Runs asks for no more than its words say: any head, and as many cells as there are.
func TestRuns(t *testing.T) {
	if n, e := patch.Runs([]byte{0, 255, 7, 9, 77}); n != 0 || e != api.OK {
		t.Errorf("any head: %d, %v", n, e)
	}
	p := make([]byte, 5)
	for i := 1; i <= 1000; i++ {
		p = append(p, runBytes(i*i, letter('x'))...)
		if n, e := patch.Runs(p); n != i || e != api.OK {
			t.Fatalf("%d, %v, want %d", n, e, i)
		}
	}
	p = append(make([]byte, 5), runBytes(0, slices.Repeat(letters("x"), 20000)...)...)
	if n, e := patch.Runs(p); n != 1 || e != api.OK {
		t.Errorf("many cells: %d, %v", n, e)
	}
	if n, e := patch.Runs(p[:len(p)-1]); n != 0 || e != api.ErrForm {
		t.Errorf("cut: %d, %v", n, e)
	}
	// P1: any bytes end, and soon.
	r := rand.New(rand.NewSource(3))
	for range 20000 {
		p := make([]byte, r.Intn(40))
		r.Read(p)
		patch.Runs(p)
		patch.Apply(view.First(), p)
	}
}

// Rules 4, 5 and 7: nothing is changed or kept, nothing behind a list's length is read or written, and all that is handed out is new.
func TestMemory(t *testing.T) {
	room := append(letters("abcdef"), letters("ghi")...)
	a := small()
	a.Cells = room[:6]
	roomOfB := append(letters("abxyef"), letters("ghi")...)
	b := small()
	b.Cells = roomOfB[:6]
	p, _ := patch.Diff(a, b)
	want := slices.Clone(p)
	again, _ := patch.Diff(a, b)
	again[0] = 99
	roomOfP := append(slices.Clone(p), 1, 2, 3)
	cut := roomOfP[:len(p)]
	v, e := patch.Apply(a, cut)
	other, _ := patch.Apply(a, cut)
	if e != api.OK || !equal(v, b) {
		t.Fatalf("%+v, %v", v, e)
	}
	v.Cells[0] = letter('z')
	_ = append(v.Cells, letter('z'))
	if !equal(other, b) {
		t.Errorf("two answers share memory: %+v", other)
	}
	if !slices.Equal(room, letters("abcdefghi")) || !slices.Equal(roomOfB, letters("abxyefghi")) || !bytes.Equal(p, want) || !bytes.Equal(roomOfP, append(slices.Clone(want), 1, 2, 3)) {
		t.Error("what was handed in was changed")
	}
	if n, e := patch.Runs(cut); n != 1 || e != api.OK {
		t.Errorf("%d, %v", n, e)
	}
	// Also where nothing is other.
	v, _ = patch.Apply(a, []byte{2, 3, 1, 2, 1})
	v.Cells[0] = letter('z')
	if a.Cells[0] != letter('a') {
		t.Error("the cells are a's own")
	}
	// And after a patch that is none behind its first run.
	patch.Apply(a, joined([]byte{2, 3, 1, 2, 1}, runBytes(0, letter('x')), runBytes(9, letter('x'))))
	if !slices.Equal(room, letters("abcdefghi")) {
		t.Error("what is no patch changed the view")
	}
}
