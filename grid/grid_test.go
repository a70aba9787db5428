package grid_test

import (
	"math"
	"math/rand"
	"slices"
	"testing"

	"longline/api"
	"longline/grid"
	"longline/style"
)

// place is where a cell stands.
type place struct{ row, col int }

// screen is a grid as the document words it: a cell at each place, each call told by what stands where behind it.
type screen struct {
	rows, cols int
	cells      map[place]grid.Cell
}

// made is a screen of so many rows and columns whose cells a function tells.
func made(rows, cols int, tell func(p place) grid.Cell) screen {
	s := screen{rows, cols, map[place]grid.Cell{}}
	for row := range rows {
		for col := range cols {
			s.cells[place{row, col}] = tell(place{row, col})
		}
	}
	return s
}

func (s screen) has(p place) bool {
	return p.row >= 0 && p.row < s.rows && p.col >= 0 && p.col < s.cols
}

// turned is the screen with those cells told anew at whose places turns says so.
func (s screen) turned(turns func(p place) bool, tell func(p place) grid.Cell) screen {
	return made(s.rows, s.cols, func(p place) grid.Cell {
		if turns(p) {
			return tell(p)
		}
		return s.cells[p]
	})
}

func (s screen) put(row, col int, c grid.Cell) (screen, api.Errno) {
	if !s.has(place{row, col}) {
		return s, api.ErrArg
	}
	return s.turned(func(p place) bool { return p == place{row, col} }, func(place) grid.Cell { return c }), api.OK
}

func (s screen) fill(row, from, to int, c grid.Cell) (screen, api.Errno) {
	if row < 0 || row >= s.rows {
		return s, api.ErrArg
	}
	return s.turned(func(p place) bool { return p.row == row && p.col >= from && p.col < to }, func(place) grid.Cell { return c }), api.OK
}

// rowsMoved moves the rows of top to bottom: each is what the one by further was, if that is one of them.
func (s screen) rowsMoved(top, bottom, n, by int, c grid.Cell) (screen, api.Errno) {
	if top < 0 || top > bottom || bottom >= s.rows || n < 0 {
		return s, api.ErrArg
	}
	return s.turned(func(p place) bool { return p.row >= top && p.row <= bottom }, func(p place) grid.Cell {
		was := p.row + by*min(n, s.rows)
		if was < top || was > bottom {
			return c
		}
		return s.cells[place{was, p.col}]
	}), api.OK
}

// cellsMoved moves the cells of a row from col on: each is what the one by further was, if that is one of them.
func (s screen) cellsMoved(row, col, n, by int, c grid.Cell) (screen, api.Errno) {
	if !s.has(place{row, col}) || n < 0 {
		return s, api.ErrArg
	}
	return s.turned(func(p place) bool { return p.row == row && p.col >= col }, func(p place) grid.Cell {
		was := p.col + by*min(n, s.cols)
		if was < col || was >= s.cols {
			return c
		}
		return s.cells[place{row, was}]
	}), api.OK
}

func (s screen) resized(rows, cols int, c grid.Cell) (screen, api.Errno) {
	if rows < 1 || rows > api.MaxRows || cols < 1 || cols > api.MaxCols {
		return s, api.ErrArg
	}
	return made(rows, cols, func(p place) grid.Cell {
		if s.has(p) {
			return s.cells[p]
		}
		return c
	}), api.OK
}

// cell is one that is unlike those of all other numbers, as most of them may not be.
func cell(n int) grid.Cell {
	return grid.Cell{Point: int32(n), Style: style.Style{Flags: uint8(n), Fg: uint32(n) * 7, Bg: uint32(n) * 0x10001}}
}

var blank = grid.Cell{Point: 32}

// fresh is a grid whose cells are all unlike, and what it is.
func fresh(t *testing.T, rows, cols int) (*grid.Grid, screen) {
	t.Helper()
	g, e := grid.New(rows, cols)
	if e != api.OK {
		t.Fatalf("New(%d, %d): %v", rows, cols, e)
	}
	s := made(rows, cols, func(p place) grid.Cell { return cell(100 + p.row*cols + p.col) })
	for p, c := range s.cells {
		if e := g.Put(p.row, p.col, c); e != api.OK {
			t.Fatalf("Put(%d, %d): %v", p.row, p.col, e)
		}
	}
	want(t, g, s)
	return g, s
}

// want holds a grid against a screen, cell by cell and line by line.
func want(t *testing.T, g *grid.Grid, s screen) {
	t.Helper()
	if g.Rows() != s.rows || g.Cols() != s.cols {
		t.Fatalf("%d rows of %d columns, want %d of %d", g.Rows(), g.Cols(), s.rows, s.cols)
	}
	for row := range s.rows {
		l, e := g.Line(row)
		if e != api.OK || len(l) != s.cols {
			t.Fatalf("Line(%d): %v, %v", row, l, e)
		}
		for col := range s.cols {
			c, e := g.At(row, col)
			if wanted := s.cells[place{row, col}]; e != api.OK || c != wanted || l[col] != wanted {
				t.Fatalf("At(%d, %d): %v, %v; Line has %v, want %v", row, col, c, e, l[col], wanted)
			}
		}
	}
}

var extremes = []int{math.MinInt, math.MinInt + 1, math.MinInt / 40, math.MinInt32, -480, -41, -40, -12}

// around are numbers about 0 and about most, and the greatest there are.
func around(most int) []int {
	l := slices.Clone(extremes)
	for i := -2; i <= most+2; i++ {
		l = append(l, i)
	}
	return append(l, most+12, most+40, math.MaxInt32, math.MaxInt/40, math.MaxInt/2+1, math.MaxInt-1, math.MaxInt)
}

// few are some numbers from about 0 to about most.
func few(most int) []int {
	return []int{math.MinInt, -1, 0, 1, most / 2, most - 1, most, most + 1, 1 << 58, math.MaxInt / 40, math.MaxInt}
}

// P17.1: how many rows and columns there may be; all cells of a new one are blank.
func TestNew(t *testing.T) {
	if grid.Blank() != blank {
		t.Errorf("Blank: %v", grid.Blank())
	}
	right := 0
	for _, rows := range around(api.MaxRows) {
		for _, cols := range around(api.MaxCols) {
			g, e := grid.New(rows, cols)
			if rows < 1 || rows > 12 || cols < 1 || cols > 40 {
				if g != nil || e != api.ErrArg {
					t.Fatalf("New(%d, %d): %v, %v", rows, cols, g, e)
				}
				continue
			}
			if e != api.OK {
				t.Fatalf("New(%d, %d): %v", rows, cols, e)
			}
			want(t, g, made(rows, cols, func(place) grid.Cell { return blank }))
			right++
		}
	}
	if right != 12*40 {
		t.Errorf("%d were right", right)
	}
}

// P17.1: of each cell there is, and of those that are not there.
func TestAtPut(t *testing.T) {
	for _, size := range []place{{1, 1}, {1, 40}, {12, 1}, {3, 5}, {12, 40}} {
		g, s := fresh(t, size.row, size.col)
		for _, row := range around(size.row) {
			for _, col := range around(size.col) {
				next, e := s.put(row, col, cell(9))
				if got := g.Put(row, col, cell(9)); got != e {
					t.Fatalf("Put(%d, %d) of %v: %v, want %v", row, col, size, got, e)
				}
				c, got := g.At(row, col)
				if got != e || e == api.OK && c != cell(9) || e != api.OK && c != (grid.Cell{}) {
					t.Fatalf("At(%d, %d) of %v: %v, %v", row, col, size, c, got)
				}
				if row*col%7 == 0 {
					want(t, g, next)
				}
				if e == api.OK {
					g.Put(row, col, s.cells[place{row, col}])
				}
			}
		}
		want(t, g, s)
	}
}

// P17.1: any cell may stand there, though it may not be seen.
func TestAnyCell(t *testing.T) {
	g, s := fresh(t, 2, 3)
	for _, c := range []grid.Cell{{}, blank, {Point: -1}, {Point: math.MinInt32}, {Point: math.MaxInt32}, {Point: 0xD800}, {Point: 'a', Style: style.Style{Flags: 255, Fg: 7, Bg: math.MaxUint32}}, {Style: style.Style{Fg: 0x1000001}}} {
		s, _ = s.put(1, 2, c)
		if e := g.Put(1, 2, c); e != api.OK {
			t.Errorf("Put of %v: %v", c, e)
		}
		want(t, g, s)
		s, _ = s.fill(0, 1, 2, c)
		if e := g.Fill(0, 1, 2, c); e != api.OK {
			t.Errorf("Fill of %v: %v", c, e)
		}
		want(t, g, s)
	}
}

// P17.1: of rows that are not there; what is handed out is new memory.
func TestLine(t *testing.T) {
	g, s := fresh(t, 12, 40)
	for _, row := range around(12) {
		l, e := g.Line(row)
		if row < 0 || row > 11 {
			if e != api.ErrArg || len(l) != 0 {
				t.Errorf("Line(%d): %v, %v", row, l, e)
			}
			continue
		}
		if e != api.OK || len(l) != 40 {
			t.Fatalf("Line(%d): %v, %v", row, l, e)
		}
		other, _ := g.Line(row)
		clear(l[:cap(l)])
		_ = append(l[:1], make([]grid.Cell, 39)...)
		_ = append(l, cell(1), cell(2))
		if other[0] != s.cells[place{row, 0}] || other[39] != s.cells[place{row, 39}] {
			t.Errorf("two lines share memory: %v", other)
		}
		want(t, g, s)
	}
	l, _ := g.Line(3)
	saved := slices.Clone(l)
	g.Put(3, 4, cell(1))
	g.Up(0, 11, 2, cell(2))
	g.Fill(3, 0, 40, cell(3))
	g.Resize(1, 1, cell(4))
	if !slices.Equal(l, saved) {
		t.Errorf("a line that was handed out was changed: %v", l)
	}
}

// P17.1: cells from one on ahead of another one, as far as they are there.
func TestFill(t *testing.T) {
	for _, size := range []place{{1, 1}, {3, 6}, {12, 40}} {
		g, s := fresh(t, size.row, size.col)
		g.Put(0, 0, cell(3))
		s, _ = s.put(0, 0, cell(3))
		for _, row := range few(size.row) {
			for _, from := range around(size.col) {
				for _, to := range around(size.col) {
					if size.col > 6 && (from+to)%5 != 0 && from > 0 && to < 40 {
						continue
					}
					next, e := s.fill(row, from, to, cell(5))
					if e != api.OK {
						if got := g.Fill(row, from, to, cell(5)); got != e {
							t.Fatalf("Fill(%d, %d, %d): %v", row, from, to, got)
						}
						continue
					}
					filled := g.Copy()
					if got := filled.Fill(row, from, to, cell(5)); got != e {
						t.Fatalf("Fill(%d, %d, %d): %v", row, from, to, got)
					}
					want(t, filled, next)
				}
			}
		}
		want(t, g, s)
	}
	g, s := fresh(t, 2, 4)
	for _, x := range []struct{ from, to, first, behind int }{
		{0, 4, 0, 4}, {1, 3, 1, 3}, {-1, 2, 0, 2}, {2, 9, 2, 4}, {math.MinInt, math.MaxInt, 0, 4}, {3, 3, 0, 0}, {3, 1, 0, 0}, {4, 9, 0, 0}, {-9, 0, 0, 0}, {-9, -1, 0, 0}, {math.MaxInt, math.MinInt, 0, 0},
	} {
		filled := g.Copy()
		if e := filled.Fill(1, x.from, x.to, cell(1)); e != api.OK {
			t.Errorf("Fill from %d to %d: %v", x.from, x.to, e)
		}
		want(t, filled, s.turned(func(p place) bool { return p.row == 1 && p.col >= x.first && p.col < x.behind }, func(place) grid.Cell { return cell(1) }))
	}
}

// wantMoved holds a call on a copy against the screen that it is to make.
func wantMoved(t *testing.T, g *grid.Grid, s screen, e api.Errno, name string, call func(g *grid.Grid) api.Errno, args ...int) {
	t.Helper()
	moved := g.Copy()
	if got := call(moved); got != e {
		t.Fatalf("%s%v of %d, %d: %v, want %v", name, args, g.Rows(), g.Cols(), got, e)
	}
	if e != api.OK && !moved.Same(g) {
		t.Fatalf("%s%v of %d, %d changed something, though it answered %v", name, args, g.Rows(), g.Cols(), e)
	}
	if e == api.OK {
		want(t, moved, s)
	}
}

// P17.2: rows are moved, of each region, by each number.
func TestUpDown(t *testing.T) {
	right := 0
	for _, size := range []place{{1, 1}, {2, 3}, {5, 2}, {12, 3}} {
		g, s := fresh(t, size.row, size.col)
		for _, top := range around(size.row) {
			for _, bottom := range around(size.row) {
				for _, n := range few(bottom - top + 1) {
					for by, call := range map[int]func(g *grid.Grid) api.Errno{
						1:  func(g *grid.Grid) api.Errno { return g.Up(top, bottom, n, cell(5)) },
						-1: func(g *grid.Grid) api.Errno { return g.Down(top, bottom, n, cell(5)) },
					} {
						next, e := s.rowsMoved(top, bottom, n, by, cell(5))
						wantMoved(t, g, next, e, []string{"Down", "", "Up"}[by+1], call, top, bottom, n)
						if e == api.OK {
							right++
						}
					}
				}
			}
		}
		want(t, g, s)
	}
	if right < 1000 {
		t.Errorf("%d were right", right)
	}
}

// P17.2: rows of all columns, known ones.
func TestKnownRows(t *testing.T) {
	for _, x := range []struct {
		up             bool
		top, bottom, n int
		want           string
	}{
		{true, 0, 4, 0, "abcde"}, {true, 0, 4, 1, "bcde."}, {true, 0, 4, 4, "e...."}, {true, 0, 4, 5, "....."}, {true, 0, 4, 6, "....."}, {true, 0, 4, math.MaxInt, "....."},
		{true, 1, 3, 1, "acd.e"}, {true, 1, 3, 2, "ad..e"}, {true, 1, 3, 3, "a...e"}, {true, 1, 3, 4, "a...e"}, {true, 2, 2, 1, "ab.de"}, {true, 2, 2, 0, "abcde"}, {true, 4, 4, 9, "abcd."},
		{false, 0, 4, 0, "abcde"}, {false, 0, 4, 1, ".abcd"}, {false, 0, 4, 4, "....a"}, {false, 0, 4, 5, "....."}, {false, 0, 4, math.MaxInt, "....."},
		{false, 1, 3, 1, "a.bce"}, {false, 1, 3, 2, "a..be"}, {false, 1, 3, 3, "a...e"}, {false, 1, 3, 4, "a...e"}, {false, 2, 2, 1, "ab.de"}, {false, 0, 0, 1, ".bcde"},
	} {
		g, _ := grid.New(5, 40)
		for row := range 5 {
			g.Fill(row, 0, 40, grid.Cell{Point: int32('a' + row)})
		}
		call := g.Down
		if x.up {
			call = g.Up
		}
		if e := call(x.top, x.bottom, x.n, grid.Cell{Point: '.'}); e != api.OK {
			t.Errorf("%+v: %v", x, e)
		}
		want(t, g, made(5, 40, func(p place) grid.Cell { return grid.Cell{Point: int32(x.want[p.row])} }))
	}
}

// P17.2: a row's cells are moved, from each one on, by each number.
func TestInsertDelete(t *testing.T) {
	right := 0
	for _, size := range []place{{1, 1}, {3, 2}, {2, 9}, {3, 40}} {
		g, s := fresh(t, size.row, size.col)
		for _, row := range around(size.row) {
			for _, col := range around(size.col) {
				for _, n := range few(size.col - max(0, min(col, 40))) {
					for by, call := range map[int]func(g *grid.Grid) api.Errno{
						1:  func(g *grid.Grid) api.Errno { return g.Delete(row, col, n, cell(5)) },
						-1: func(g *grid.Grid) api.Errno { return g.Insert(row, col, n, cell(5)) },
					} {
						next, e := s.cellsMoved(row, col, n, by, cell(5))
						wantMoved(t, g, next, e, []string{"Insert", "", "Delete"}[by+1], call, row, col, n)
						if e == api.OK {
							right++
						}
					}
				}
			}
		}
		want(t, g, s)
	}
	if right < 1000 {
		t.Errorf("%d were right", right)
	}
}

// P17.2: cells of a row between others, known ones.
func TestKnownCells(t *testing.T) {
	for _, x := range []struct {
		insert bool
		col, n int
		want   string
	}{
		{true, 0, 0, "abcde"}, {true, 0, 1, ".abcd"}, {true, 0, 4, "....a"}, {true, 0, 5, "....."}, {true, 0, 6, "....."}, {true, 2, 1, "ab.cd"}, {true, 2, 2, "ab..c"}, {true, 2, 3, "ab..."}, {true, 2, 4, "ab..."}, {true, 4, 1, "abcd."}, {true, 4, math.MaxInt, "abcd."}, {true, 4, 0, "abcde"},
		{false, 0, 0, "abcde"}, {false, 0, 1, "bcde."}, {false, 0, 4, "e...."}, {false, 0, 5, "....."}, {false, 0, 6, "....."}, {false, 2, 1, "abde."}, {false, 2, 2, "abe.."}, {false, 2, 3, "ab..."}, {false, 2, 4, "ab..."}, {false, 4, 1, "abcd."}, {false, 4, math.MaxInt, "abcd."}, {false, 4, 0, "abcde"},
	} {
		g, _ := grid.New(3, 5)
		for row := range 3 {
			for col := range 5 {
				g.Put(row, col, grid.Cell{Point: int32('a' + col), Style: style.Style{Flags: uint8(row)}})
			}
		}
		call := g.Delete
		if x.insert {
			call = g.Insert
		}
		if e := call(1, x.col, x.n, grid.Cell{Point: '.', Style: style.Style{Flags: 1}}); e != api.OK {
			t.Errorf("%+v: %v", x, e)
		}
		want(t, g, made(3, 5, func(p place) grid.Cell {
			text := "abcde"
			if p.row == 1 {
				text = x.want
			}
			return grid.Cell{Point: int32(text[p.col]), Style: style.Style{Flags: uint8(p.row)}}
		}))
	}
}

// P17.3: those that were there as they were, all others new; what was cut off does not come again.
func TestResize(t *testing.T) {
	for _, size := range []place{{1, 1}, {2, 3}, {5, 7}, {12, 40}} {
		g, s := fresh(t, size.row, size.col)
		for _, rows := range around(api.MaxRows) {
			for _, cols := range around(api.MaxCols) {
				next, e := s.resized(rows, cols, cell(5))
				wantMoved(t, g, next, e, "Resize", func(g *grid.Grid) api.Errno { return g.Resize(rows, cols, cell(5)) }, rows, cols)
			}
		}
		want(t, g, s)
	}
	g, s := fresh(t, 4, 6)
	for i, size := range []place{{2, 3}, {4, 6}, {4, 2}, {1, 6}, {12, 40}, {12, 1}, {1, 1}, {3, 3}} {
		s, _ = s.resized(size.row, size.col, cell(i))
		if e := g.Resize(size.row, size.col, cell(i)); e != api.OK {
			t.Fatalf("Resize(%v): %v", size, e)
		}
		want(t, g, s)
	}
	if s.cells[place{0, 0}] != cell(100) || s.cells[place{2, 2}] != cell(7) || s.cells[place{0, 1}] != cell(7) {
		t.Errorf("the screen of the test itself: %v", s)
	}
}

// P17.3, P17.5: a copy is by itself, whatever is done with it, and with what it was made of.
func TestCopy(t *testing.T) {
	changes := []func(g *grid.Grid) api.Errno{
		func(g *grid.Grid) api.Errno { return g.Put(1, 1, cell(1)) },
		func(g *grid.Grid) api.Errno { return g.Fill(2, 0, 4, cell(1)) },
		func(g *grid.Grid) api.Errno { return g.Up(0, 3, 1, cell(1)) },
		func(g *grid.Grid) api.Errno { return g.Down(0, 3, 1, cell(1)) },
		func(g *grid.Grid) api.Errno { return g.Insert(0, 0, 1, cell(1)) },
		func(g *grid.Grid) api.Errno { return g.Delete(0, 0, 1, cell(1)) },
		func(g *grid.Grid) api.Errno { return g.Resize(2, 2, cell(1)) },
		func(g *grid.Grid) api.Errno { return g.Resize(5, 6, cell(1)) },
	}
	for i, change := range changes {
		g, s := fresh(t, 4, 5)
		c := g.Copy()
		if c == g || !c.Same(g) || !g.Same(c) {
			t.Fatalf("%d: it is no copy", i)
		}
		if e := change(c); e != api.OK || c.Same(g) || g.Same(c) {
			t.Fatalf("%d: %v", i, e)
		}
		want(t, g, s)
		again := g.Copy()
		if e := change(g); e != api.OK || !g.Same(c) {
			t.Fatalf("%d: what is done to both makes them unlike: %v", i, e)
		}
		want(t, again, s)
	}
}

// P17.3: both of a size, and all cells equal.
func TestSame(t *testing.T) {
	for _, size := range []place{{1, 1}, {3, 4}, {12, 40}} {
		g, s := fresh(t, size.row, size.col)
		o, _ := fresh(t, size.row, size.col)
		if !g.Same(g) || !g.Same(o) || !o.Same(g) {
			t.Errorf("of %v: equal ones are not the same", size)
		}
		for p, c := range s.cells {
			for _, other := range []grid.Cell{{Point: c.Point + 1, Style: c.Style}, {Point: c.Point, Style: style.Style{Flags: c.Style.Flags + 1, Fg: c.Style.Fg, Bg: c.Style.Bg}}, {Point: c.Point, Style: style.Style{Flags: c.Style.Flags, Fg: c.Style.Fg + 1, Bg: c.Style.Bg}}, {Point: c.Point, Style: style.Style{Flags: c.Style.Flags, Fg: c.Style.Fg, Bg: c.Style.Bg + 1}}, {}} {
				o.Put(p.row, p.col, other)
				if g.Same(o) || o.Same(g) {
					t.Fatalf("at %v of %v: %v and %v are the same", p, size, c, other)
				}
			}
			o.Put(p.row, p.col, c)
		}
		if !g.Same(o) {
			t.Errorf("of %v: not the same again", size)
		}
	}
	// As many cells, but of another size.
	var l []*grid.Grid
	for _, size := range []place{{1, 12}, {2, 6}, {3, 4}, {4, 3}, {6, 2}, {12, 1}, {1, 1}, {12, 40}, {3, 5}, {2, 4}} {
		g, e := grid.New(size.row, size.col)
		if e != api.OK {
			t.Fatal(e)
		}
		l = append(l, g)
	}
	for i, g := range l {
		for j, o := range l {
			if g.Same(o) != (i == j) {
				t.Errorf("the sizes %d and %d: %v", i, j, g.Same(o))
			}
		}
	}
}

// P17.4: up and down by as many, and in and out of as many.
func TestThereAndBack(t *testing.T) {
	g, s := fresh(t, 7, 3)
	for top := range 7 {
		for bottom := top; bottom < 7; bottom++ {
			for n := range 9 {
				up, down := g.Copy(), g.Copy()
				up.Up(top, bottom, n, cell(5))
				up.Down(top, bottom, n, cell(6))
				down.Down(top, bottom, n, cell(5))
				down.Up(top, bottom, n, cell(6))
				want(t, up, s.turned(func(p place) bool { return p.row >= top && p.row <= bottom && p.row < top+n }, func(place) grid.Cell { return cell(6) }))
				want(t, down, s.turned(func(p place) bool { return p.row >= top && p.row <= bottom && p.row > bottom-n }, func(place) grid.Cell { return cell(6) }))
			}
		}
	}
	g, s = fresh(t, 3, 9)
	for row := range 3 {
		for col := range 9 {
			for n := range 11 {
				in, out := g.Copy(), g.Copy()
				in.Insert(row, col, n, cell(5))
				in.Delete(row, col, n, cell(6))
				out.Delete(row, col, n, cell(5))
				out.Insert(row, col, n, cell(6))
				want(t, in, s.turned(func(p place) bool { return p.row == row && p.col >= col && p.col > 8-n }, func(place) grid.Cell { return cell(6) }))
				want(t, out, s.turned(func(p place) bool { return p.row == row && p.col >= col && p.col < col+n }, func(place) grid.Cell { return cell(6) }))
			}
		}
	}
}

// P17.1: of nil, and of one that no call made, ahead of what else is wrong.
func TestNoGrid(t *testing.T) {
	var none *grid.Grid
	var zero grid.Grid
	held := struct{ grid.Grid }{}
	real, s := fresh(t, 2, 2)
	for i, g := range []*grid.Grid{none, &zero, new(grid.Grid), {}, &held.Grid} {
		if g.Rows() != 0 || g.Cols() != 0 || g.Copy() != nil || g.Same(g) || g.Same(nil) || g.Same(&grid.Grid{}) || g.Same(real) || real.Same(g) || none.Same(g) {
			t.Errorf("%d: %d, %d, %v", i, g.Rows(), g.Cols(), g.Copy())
		}
		for _, x := range []int{math.MinInt, -1, 0, 1, 12, math.MaxInt} {
			for _, y := range []int{math.MinInt, -1, 0, 1, 12, math.MaxInt} {
				if c, e := g.At(x, y); e != api.ErrNil || c != (grid.Cell{}) {
					t.Errorf("%d: At(%d, %d): %v, %v", i, x, y, c, e)
				}
				if l, e := g.Line(x); e != api.ErrNil || len(l) != 0 {
					t.Errorf("%d: Line(%d): %v, %v", i, x, l, e)
				}
				for j, e := range []api.Errno{g.Put(x, y, blank), g.Fill(x, y, 1, blank), g.Fill(0, x, y, blank), g.Up(x, y, 1, blank), g.Up(0, x, y, blank), g.Down(x, y, 1, blank), g.Down(0, x, y, blank), g.Insert(x, y, 1, blank), g.Insert(0, x, y, blank), g.Delete(x, y, 1, blank), g.Delete(0, x, y, blank), g.Resize(x, y, blank)} {
					if e != api.ErrNil {
						t.Errorf("%d: the call %d of %d, %d: %v", i, j, x, y, e)
					}
				}
			}
		}
		if g.Rows() != 0 || g.Cols() != 0 || g.Copy() != nil {
			t.Errorf("%d: a call made it", i)
		}
	}
	want(t, real, s)
}

// step does something by chance to a grid, and to what it is to be.
func step(t *testing.T, r *rand.Rand, g *grid.Grid, s screen) (screen, string, api.Errno) {
	t.Helper()
	row, col, n, c := r.Intn(s.rows+2)-1, r.Intn(s.cols+2)-1, r.Intn(8)-1, cell(r.Intn(1000))
	if r.Intn(20) == 0 {
		n = few(5)[r.Intn(11)]
	}
	row2, col2 := r.Intn(s.rows+2)-1, r.Intn(s.cols+2)-1
	var next screen
	var e, got api.Errno
	name := []string{"Put", "Fill", "Up", "Down", "Insert", "Delete", "Resize"}[r.Intn(7)]
	switch name {
	case "Put":
		next, e = s.put(row, col, c)
		got = g.Put(row, col, c)
	case "Fill":
		next, e = s.fill(row, col, col2, c)
		got = g.Fill(row, col, col2, c)
	case "Up":
		next, e = s.rowsMoved(row, row2, n, 1, c)
		got = g.Up(row, row2, n, c)
	case "Down":
		next, e = s.rowsMoved(row, row2, n, -1, c)
		got = g.Down(row, row2, n, c)
	case "Insert":
		next, e = s.cellsMoved(row, col, n, -1, c)
		got = g.Insert(row, col, n, c)
	case "Delete":
		next, e = s.cellsMoved(row, col, n, 1, c)
		got = g.Delete(row, col, n, c)
	case "Resize":
		rows, cols := r.Intn(14), r.Intn(42)
		next, e = s.resized(rows, cols, c)
		got = g.Resize(rows, cols, c)
	}
	if got != e {
		t.Fatalf("%s: %v, want %v", name, got, e)
	}
	return next, name, e
}

// All calls, one behind the other, by chance; and rule 7: the same calls are answered the same.
func TestWalk(t *testing.T) {
	type kind struct {
		name string
		e    api.Errno
	}
	seen := map[kind]int{}
	for seed := range 60 {
		r, twin := rand.New(rand.NewSource(int64(seed))), rand.New(rand.NewSource(int64(seed)))
		rows, cols := 1+seed%12, 1+seed*7%40
		g, s := fresh(t, rows, cols)
		o, same := fresh(t, rows, cols)
		bystander, still := fresh(t, 3, 3)
		for range 60 {
			name, e := "", api.OK
			s, name, e = step(t, r, g, s)
			same, _, _ = step(t, twin, o, same)
			want(t, g, s)
			seen[kind{name, e}]++
			if !g.Same(o) {
				t.Fatalf("%d: the same calls make them unlike", seed)
			}
		}
		want(t, bystander, still)
	}
	for _, name := range []string{"Put", "Fill", "Up", "Down", "Insert", "Delete", "Resize"} {
		if seen[kind{name, api.OK}] < 50 || seen[kind{name, api.ErrArg}] < 20 {
			t.Errorf("%s: %d were right, %d wrong", name, seen[kind{name, api.OK}], seen[kind{name, api.ErrArg}])
		}
	}
}

// The document's example: of two rows, Up by one.
func TestExample(t *testing.T) {
	g, e := grid.New(2, 2)
	if e != api.OK {
		t.Fatal(e)
	}
	g.Put(0, 0, grid.Cell{Point: 'a'})
	g.Put(1, 0, grid.Cell{Point: 'b'})
	if e := g.Up(0, 1, 1, grid.Blank()); e != api.OK {
		t.Fatal(e)
	}
	first, _ := g.Line(0)
	second, _ := g.Line(1)
	if !slices.Equal(first, []grid.Cell{{Point: 'b'}, {Point: ' '}}) || !slices.Equal(second, []grid.Cell{{Point: ' '}, {Point: ' '}}) {
		t.Errorf("%v, %v", first, second)
	}
}
