package term_test

import (
	"bytes"
	"encoding/base64"
	"math"
	"math/rand"
	"strconv"
	"strings"
	"testing"

	"longline/api"
	"longline/grid"
	"longline/style"
	"longline/term"
)

// red is the style of the number 41 alone.
var red = style.Style{Bg: 0x1000001}

// letter is how a cell is told: its point; a blank one by a dot, or by _, if it has a Bg alone; what may not be so by ?.
func letter(c grid.Cell) string {
	switch {
	case c == usual(' '):
		return "."
	case c.Point == ' ' && c.Style == red:
		return "_"
	case c.Point == ' ':
		return "?"
	}
	return string(c.Point)
}

// shown is the screen that is shown, row by row.
func shown(t *term.Term) string {
	g := t.Grid()
	var rows []string
	for row := range g.Rows() {
		line, _ := g.Line(row)
		s := ""
		for _, c := range line {
			s += letter(c)
		}
		rows = append(rows, s)
	}
	return strings.Join(rows, "|")
}

// told is a terminal to which a host said something.
func told(t *testing.T, rows, cols int, says string) *term.Term {
	t.Helper()
	got, e := term.New(rows, cols)
	if e != api.OK {
		t.Fatalf("New(%d, %d): %v", rows, cols, e)
	}
	if e := got.Feed([]byte(says)); e != api.OK {
		t.Fatalf("Feed(%q): %v", says, e)
	}
	return got
}

func wantShown(t *testing.T, got *term.Term, says, want string, row, col int) {
	t.Helper()
	r, c, _ := got.Cursor()
	if s := shown(got); s != want || r != row || c != col {
		t.Errorf("of %q comes %s, the cursor at %d, %d; want %s, %d, %d", says, s, r, c, want, row, col)
	}
}

// example is what comes of something that a host says, on a screen of the size of what is wanted.
type example struct {
	says, want string
	row, col   int
}

func wantAll(t *testing.T, l []example) {
	t.Helper()
	for _, x := range l {
		rows := strings.Split(x.want, "|")
		got := told(t, len(rows), len([]rune(rows[0])), x.says)
		wantShown(t, got, x.says, x.want, x.row, x.col)
	}
}

// P19.1: how many rows and columns there may be, and what a new terminal is.
func TestNew(t *testing.T) {
	for _, rows := range []int{math.MinInt, -1, 0, 1, 2, 11, 12, 13, 40, math.MaxInt} {
		for _, cols := range []int{math.MinInt, -1, 0, 1, 2, 12, 13, 39, 40, 41, math.MaxInt} {
			got, e := term.New(rows, cols)
			if rows < 1 || rows > 12 || cols < 1 || cols > 40 {
				if got != nil || e != api.ErrArg {
					t.Fatalf("New(%d, %d): %v, %v", rows, cols, got, e)
				}
				continue
			}
			if e != api.OK {
				t.Fatalf("New(%d, %d): %v", rows, cols, e)
			}
			blank, _ := grid.New(rows, cols)
			row, col, visible := got.Cursor()
			clip, clips := got.Clip()
			if !got.Grid().Same(blank) || row != 0 || col != 0 || !visible || got.Title() != "" || clip != "" || clips != 0 || got.Bells() != 0 || got.Other() {
				t.Fatalf("New(%d, %d): %s, %d, %d, %v, %q, %q, %d, %d, %v", rows, cols, shown(got), row, col, visible, got.Title(), clip, clips, got.Bells(), got.Other())
			}
		}
	}
}

// P19.1, P1: of nil, and of what no call made.
func TestNil(t *testing.T) {
	for i, got := range []*term.Term{nil, {}, new(term.Term)} {
		for range 2 {
			row, col, visible := got.Cursor()
			clip, clips := got.Clip()
			if got.Grid() != nil || row != 0 || col != 0 || visible || got.Title() != "" || clip != "" || clips != 0 || got.Bells() != 0 || got.Other() {
				t.Errorf("%d: %v, %d, %d, %v, %q, %q, %d, %d, %v", i, got.Grid(), row, col, visible, got.Title(), clip, clips, got.Bells(), got.Other())
			}
			for _, e := range []api.Errno{got.Feed(nil), got.Feed([]byte("a\x07\x1b]2;t\x07\x1b[?1049h")), got.Resize(1, 1), got.Resize(0, 0), got.Resize(-1, 99)} {
				if e != api.ErrNil {
					t.Errorf("%d: %v", i, e)
				}
			}
		}
	}
}

// P19.2: points are printed.
func TestPrint(t *testing.T) {
	wantAll(t, []example{
		{"", "..|..", 0, 0},
		{"A", "A.|..", 0, 1},
		{"AB", "AB|..", 0, 1},
		{"ABC", "AB|C.", 1, 1},
		{"ABCD", "AB|CD", 1, 1},
		{"ABCDE", "CD|E.", 1, 1},
		{"ABCDEFG", "EF|G.", 1, 1},
		{"A", "A", 0, 0},
		{"AB", "B", 0, 0},
		{"AB", "A|B", 1, 0},
		{"ABC", "B|C", 1, 0},
		{"AB\rC", "CB|..", 0, 1},
		// What is no point's bytes, and points of more than one byte, have one cell each.
		{"\u00e4\u20ac\U0001F600", "\u00e4\u20ac\U0001F600.", 0, 3},
		{"\xff\xc3A", "\uFFFD\uFFFDA.", 0, 3},
		{"a\u0301\u200b", "a\u0301\u200b.", 0, 3},
		{"\u0085\u009b1mA", "\u0085\u009b1mA.", 0, 5},
		{"A\xe2\x82", "A..", 0, 1},
		{"a \x7fb", "a.b.", 0, 3},
		// Without wraps it does not hang.
		{"\x1b[?7lABC", "AC|..", 0, 1},
		{"\x1b[?7lABCD\x1b[?7hE", "AE|..", 0, 1},
		{"\x1b[?7lABCD\x1b[?7hEF", "AE|F.", 1, 1},
		{"\x1b[?7lAB\x1b[?7h\x1b[?7lC", "AC|..", 0, 1},
		// It hangs, and wraps no more, till it does again.
		{"AB\x1b[?7lC", "AC|..", 0, 1},
		{"AB\x1b[?7l\x1b[?7hC", "AB|C.", 1, 1},
		{"AB\x1b[?7lC\x1b[?7hD", "AD|..", 0, 1},
		// The first of several numbers, and one that says nothing.
		{"\x1b[?7;25lABC", "AC|..", 0, 1},
		{"\x1b[?25;7lABC", "AC|..", 0, 1},
		{"\x1b[?1;7;2lABC", "AC|..", 0, 1},
		{"\x1b[7lABC", "AB|C.", 1, 1},
		{"\x1b[>7lABC", "AB|C.", 1, 1},
		{"\x1b[?7 lABC", "AB|C.", 1, 1},
		{"\x1b[?lABC", "AB|C.", 1, 1},
	})
}

// P19.2: a cell has the style; what is erased has its Bg alone.
func TestStyle(t *testing.T) {
	got := told(t, 2, 4, "A\x1b[1;31;41mB \x1b[mC\x1b[4;32;42mD\x1b[38;2;1;2;3;48;5;255mE\x1b[K")
	bold := style.Style{Flags: style.Bold, Fg: 0x1000001, Bg: 0x1000001}
	under := style.Style{Flags: style.Under, Fg: 0x1000002, Bg: 0x1000002}
	under2 := style.Style{Flags: style.Under, Fg: 0x2010203, Bg: 0x10000FF}
	erased := style.Style{Bg: 0x10000FF}
	want := [2][4]grid.Cell{{usual('A'), {Point: 'B', Style: bold}, {Point: ' ', Style: bold}, usual('C')},
		{{Point: 'D', Style: under}, {Point: 'E', Style: under2}, {Point: ' ', Style: erased}, {Point: ' ', Style: erased}}}
	for row, line := range want {
		for col, c := range line {
			if at, e := got.Grid().At(row, col); at != c || e != api.OK {
				t.Errorf("the cell %d, %d: %+v, %v, want %+v", row, col, at, e, c)
			}
		}
	}
	wantAll(t, []example{
		// All that erases: controls, sequences, and what inserts.
		{"\x1b[1;4;7;33;41mA\x1b[K", "A__|...", 0, 1},
		{"\x1b[1;4;7;33;41mA\x1b[J", "A__|___", 0, 1},
		{"\x1b[2;3H\x1b[31;41m\n", "...|___", 1, 2},
		{"\x1b[31;41m\x1bM", "___|...", 0, 0},
		{"AB\x1b[31;41m\x1b[S", "...|___", 0, 2},
		{"AB\x1b[31;41m\x1b[T", "___|AB.", 0, 2},
		{"AB\x1b[31;41m\x1b[L", "___|AB.", 0, 0},
		{"AB\x1b[31;41m\x1b[M", "...|___", 0, 0},
		{"AB\r\x1b[31;41m\x1b[@", "_AB|...", 0, 0},
		{"AB\r\x1b[31;41m\x1b[P", "B._|...", 0, 0},
		{"AB\r\x1b[31;41m\x1b[X", "_B.|...", 0, 0},
		{"A\x1b[31;41m\x1b[?1049h", "___|___", 0, 1},
		{"AB\r\x1b[31;41;4h\x1b[4hC", "CAB|...", 0, 1},
		{"\x1b[41mABCDEFG", "DEF|G__", 1, 1},
		// And what does not: a new size, a test, as at first.
		{"\x1b[31;41m\x1b#8", "EEE|EEE", 0, 0},
		{"\x1b[31;41mA\x1bc", "...|...", 0, 0},
		// Reverse is of no erased cell.
		{"\x1b[7mA\x1b[K", "A..|...", 0, 1},
		// m of another kind is none.
		{"\x1b[>41m\x1b[?41m\x1b[41 m\x1b[K", "...|...", 0, 0},
	})
	for row := range 2 {
		for col := range 3 {
			if c, _ := told(t, 2, 3, "\x1b[31;41m\x1b#8").Grid().At(row, col); c != usual('E') {
				t.Errorf("%+v", c)
			}
		}
	}
}

// P19.2: controls.
func TestControls(t *testing.T) {
	wantAll(t, []example{
		{"AB\bC", "AC.|...", 0, 2},
		{"A\b\b\bC", "C..|...", 0, 1},
		{"A\nB\nC", ".B.|..C", 1, 2},
		{"A\x0bB", "A..|.B.", 1, 2},
		{"A\x0cB", "A..|.B.", 1, 2},
		{"A\r\nB\r\nC", "B..|C..", 1, 1},
		{"AB\rC", "CB.|...", 0, 1},
		{"A\x00\x01\x05\x06\x0e\x0f\x17\x19\x1c\x1fB", "AB.|...", 0, 2},
		{"A\x07B", "AB.|...", 0, 2},
		{"A\x1b[\n2\rCX", "A..|..X", 1, 2},
		{"A\x1b[2\x18C", "AC.|...", 0, 2},
	})
	for n := range 4 {
		if got := told(t, 2, 3, strings.Repeat("\x07", n)+"\x1b[\x07m\x1b]0;t\x07\x1bc").Bells(); got != n+1 {
			t.Errorf("%d bells rang, want %d", got, n+1)
		}
	}
}

// P19.2: tab stops.
func TestTabs(t *testing.T) {
	blank := strings.Repeat(".", 40)
	for tabs, want := range []int{0, 8, 16, 24, 32, 39, 39} {
		wantAll(t, []example{{strings.Repeat("\t", tabs), blank, 0, want}})
	}
	for from, want := range []int{8, 8, 8, 8, 8, 8, 8, 8, 16, 16} {
		wantAll(t, []example{{strings.Repeat("\x1b[C", from) + "\t", blank, 0, want}})
	}
	wantAll(t, []example{
		{"\t", ".", 0, 0},
		{"\t", ".......", 0, 6},
		{"\t", "........", 0, 7},
		{"\t", ".........", 0, 8},
		{"\tA", "........A", 0, 8},
		{"\t\t", ".........", 0, 8},
		// A stop here, none here, none at all.
		{"\x1b[4G\x1bH\r\t", blank, 0, 3},
		{"\x1b[4G\x1bH\r\t\t", blank, 0, 8},
		{"\x1b[4G\x1bH\x1b[g\r\t", blank, 0, 8},
		{"\x1b[4G\x1bH\x1b[0g\r\t", blank, 0, 8},
		{"\x1b[4G\x1bH\x1b[1g\x1b[2g\x1b[4g\x1b[5g\r\t", blank, 0, 3},
		{"\x1b[4G\x1bH\x1b[0;3g\r\t", blank, 0, 8},
		{"\x1b[4G\x1bH\x1b[?g\x1b[ g\x1b[?3g\r\t", blank, 0, 3},
		{"\x1b[9G\x1b[g\r\t", blank, 0, 16},
		{"\x1b[9G\x1b[g\r\t\t", blank, 0, 24},
		{"\x1b[3g\t", blank, 0, 39},
		{"\x1b[3g\x1b[7G\x1bH\r\t", blank, 0, 6},
		{"\x1b[3g\x1b[7G\x1bH\r\t\t", blank, 0, 39},
		{"\x1b[40G\x1bH\x1b[39G\t", blank, 0, 39},
		{"\x1bH\t", blank, 0, 8},
		{"\x1b[3g\x1bc\t\t", blank, 0, 16},
		{"\x1b[4G\x1bH\x1bc\t", blank, 0, 8},
		{"\x1b[3G\x1b H\x1b#H\r\t", blank, 0, 8},
	})
	// They stay where they are, whatever the size is.
	got := told(t, 1, 40, "\x1b[35G\x1bH\x1b[3G\x1bH")
	got.Resize(1, 3)
	got.Feed([]byte("\r\t\t\x1b[2G\x1bH"))
	wantShown(t, got, "tabs", "...", 0, 1)
	got.Resize(1, 40)
	for _, want := range []int{1, 2, 8, 16, 24, 32, 34, 39} {
		if want == 1 {
			got.Feed([]byte("\r"))
		}
		got.Feed([]byte("\t"))
		wantShown(t, got, "tabs", blank, 0, want)
	}
}

// P19.2: what moves the cursor lets it not hang, and what does not, does not. X tells: where it hangs, it goes to the next row.
func TestHang(t *testing.T) {
	for _, x := range []example{
		{"", "ABC|X..|...", 1, 1},
		{"\b", "AXC|...|...", 0, 2},
		{"\t", "ABX|...|...", 0, 2},
		{"\n", "ABC|..X|...", 1, 2},
		{"\x0b", "ABC|..X|...", 1, 2},
		{"\x0c", "ABC|..X|...", 1, 2},
		{"\r", "XBC|...|...", 0, 1},
		{"\x1bD", "ABC|..X|...", 1, 2},
		{"\x1bE", "ABC|X..|...", 1, 1},
		{"\x1bM", "..X|ABC|...", 0, 2},
		{"\x1b7", "ABC|X..|...", 1, 1},
		{"\x1b7\x1b8", "ABX|...|...", 0, 2},
		{"\x1b[s\x1b[u", "ABX|...|...", 0, 2},
		{"\x1b8", "XBC|...|...", 0, 1},
		{"\x1bc", "X..|...|...", 0, 1},
		{"\x1b#8", "XEE|EEE|EEE", 0, 1},
		{"\x1bH", "ABC|X..|...", 1, 1},
		{"\x1b[A", "ABX|...|...", 0, 2},
		{"\x1b[B", "ABC|..X|...", 1, 2},
		{"\x1b[C", "ABX|...|...", 0, 2},
		{"\x1b[D", "AXC|...|...", 0, 2},
		{"\x1b[E", "ABC|X..|...", 1, 1},
		{"\x1b[F", "XBC|...|...", 0, 1},
		{"\x1b[3G", "ABX|...|...", 0, 2},
		{"\x1b[99G", "ABX|...|...", 0, 2},
		{"\x1b[d", "ABX|...|...", 0, 2},
		{"\x1b[2d", "ABC|..X|...", 1, 2},
		{"\x1b[1;3H", "ABX|...|...", 0, 2},
		{"\x1b[1;3f", "ABX|...|...", 0, 2},
		{"\x1b[J", "AB.|X..|...", 1, 1},
		{"\x1b[1J", "...|X..|...", 1, 1},
		{"\x1b[K", "AB.|X..|...", 1, 1},
		{"\x1b[2K", "...|X..|...", 1, 1},
		{"\x1b[L", "X..|ABC|...", 0, 1},
		{"\x1b[M", "X..|...|...", 0, 1},
		{"\x1b[@", "AB.|X..|...", 1, 1},
		{"\x1b[P", "AB.|X..|...", 1, 1},
		{"\x1b[X", "AB.|X..|...", 1, 1},
		{"\x1b[S", "...|X..|...", 1, 1},
		{"\x1b[T", "...|XBC|...", 1, 1},
		{"\x1b[g", "ABC|X..|...", 1, 1},
		{"\x1b[4l", "ABC|X..|...", 1, 1},
		{"\x1b[m", "ABC|X..|...", 1, 1},
		{"\x1b[r", "XBC|...|...", 0, 1},
		{"\x1b[3;1r", "ABC|X..|...", 1, 1},
		{"\x1b[2;9r", "ABC|X..|...", 1, 1},
		{"\x1b[?6h", "XBC|...|...", 0, 1},
		{"\x1b[?6l", "XBC|...|...", 0, 1},
		{"\x1b[?7h", "ABC|X..|...", 1, 1},
		{"\x1b[?25l", "ABC|X..|...", 1, 1},
		{"\x1b[?1049h", "...|X..|...", 1, 1},
		{"\x1b[?1049l", "ABC|X..|...", 1, 1},
		{"\x07\x00\x1b]2;t\x07\x1bZ\x1b[c\x1b[>H\x1b[?H", "ABC|X..|...", 1, 1},
	} {
		x.says = "ABC" + x.says + "X"
		wantAll(t, []example{x})
	}
	// What would move it where it is already.
	wantAll(t, []example{
		{"ABC\nD", "..D", 0, 2},
		{"ABC\nDEF", "EF.", 0, 2},
		{"\x1b[2HABC\nD", "ABC|..D", 1, 2},
		{"\x1b[2HABC\x1bDD", "ABC|..D", 1, 2},
		{"\x1b[1;2r\x1b[3HABC\nD", "...|...|ABD", 2, 2},
		{"\x1b[2HABC\x1b[BD", "...|ABD", 1, 2},
		{"A\bB", "B|.", 0, 0},
		{"A\rB", "B|.", 0, 0},
		{"A\tB", "B|.", 0, 0},
		{"AB", "A|B", 1, 0},
	})
}

// P19.2: the region, and what is moved in it.
func TestRegion(t *testing.T) {
	const five = "A\r\nB\r\nC\r\nD\r\nE"
	for _, x := range []example{
		// It may be, or not; then the cursor goes nowhere.
		{"\x1b[2;4r", "A.|B.|C.|D.|E.", 0, 0},
		{"\x1b[r", "A.|B.|C.|D.|E.", 0, 0},
		{"\x1b[0;0r", "A.|B.|C.|D.|E.", 0, 0},
		{"\x1b[5r", "A.|B.|C.|D.|E.", 4, 1},
		{"\x1b[4r", "A.|B.|C.|D.|E.", 0, 0},
		{"\x1b[;1r", "A.|B.|C.|D.|E.", 4, 1},
		{"\x1b[3;3r", "A.|B.|C.|D.|E.", 4, 1},
		{"\x1b[4;2r", "A.|B.|C.|D.|E.", 4, 1},
		{"\x1b[2;6r", "A.|B.|C.|D.|E.", 4, 1},
		{"\x1b[9;9999r", "A.|B.|C.|D.|E.", 4, 1},
		{"\x1b[?2;4r\x1b[>2;4r\x1b[2;4 r", "A.|B.|C.|D.|E.", 4, 1},
		// What may not be lets it be as it was.
		{"\x1b[2;4r\x1b[4;4r\x1b[1;9r\x1b[4H\n", "A.|C.|D.|..|E.", 3, 0},
		// Index within, at its bottom, below it.
		{"\x1b[2;4r\n\n\nX", "A.|B.|C.|X.|E.", 3, 1},
		{"\x1b[2;4r\n\n\n\nX", "A.|C.|D.|X.|E.", 3, 1},
		{"\x1b[2;4r\x1b[4H\x1bDX", "A.|C.|D.|X.|E.", 3, 1},
		{"\x1b[2;4r\x1b[4HPQR", "A.|C.|PQ|R.|E.", 3, 1},
		{"\x1b[2;4r\x1b[5H\n\n\x1bD\x1bEX", "A.|B.|C.|D.|X.", 4, 1},
		{"\x1b[1;3r\x1b[4H\nX", "A.|B.|C.|D.|X.", 4, 1},
		{"\x1b[1;3r\x1b[3H\nX", "B.|C.|X.|D.|E.", 2, 1},
		{"\x1b[3;5r\x1b[5H\nX", "A.|B.|D.|E.|X.", 4, 1},
		{"\x1b[2;4r\x1b[4;2H\x1bEX", "A.|C.|D.|X.|E.", 3, 1},
		// The other way.
		{"\x1b[2;4r\x1b[2H\x1bMX", "A.|X.|B.|C.|E.", 1, 1},
		{"\x1b[2;4r\x1b[3H\x1bMX", "A.|X.|C.|D.|E.", 1, 1},
		{"\x1b[2;4r\x1b[1H\x1bMX", "X.|B.|C.|D.|E.", 0, 1},
		{"\x1b[2;4r\x1b[5H\x1bMX", "A.|B.|C.|X.|E.", 3, 1},
		{"\x1b[1H\x1bMX", "X.|A.|B.|C.|D.", 0, 1},
		// The region moves.
		{"\x1b[2;4r\x1b[S", "A.|C.|D.|..|E.", 0, 0},
		{"\x1b[2;4r\x1b[0S", "A.|C.|D.|..|E.", 0, 0},
		{"\x1b[2;4r\x1b[2S", "A.|D.|..|..|E.", 0, 0},
		{"\x1b[2;4r\x1b[3S", "A.|..|..|..|E.", 0, 0},
		{"\x1b[2;4r\x1b[9999S", "A.|..|..|..|E.", 0, 0},
		{"\x1b[2;4r\x1b[T", "A.|..|B.|C.|E.", 0, 0},
		{"\x1b[2;4r\x1b[2T", "A.|..|..|B.|E.", 0, 0},
		{"\x1b[2;4r\x1b[9999T", "A.|..|..|..|E.", 0, 0},
		{"\x1b[S", "B.|C.|D.|E.|..", 4, 1},
		{"\x1b[T", "..|A.|B.|C.|D.", 4, 1},
		{"\x1b[?S\x1b[>T\x1b[ S", "A.|B.|C.|D.|E.", 4, 1},
		// Rows are inserted and deleted from the cursor on, if it is in the region; its column is 0 then.
		{"\x1b[2;4r\x1b[3;2H\x1b[L", "A.|B.|..|C.|E.", 2, 0},
		{"\x1b[2;4r\x1b[2;2H\x1b[2L", "A.|..|..|B.|E.", 1, 0},
		{"\x1b[2;4r\x1b[4;2H\x1b[L", "A.|B.|C.|..|E.", 3, 0},
		{"\x1b[2;4r\x1b[4;2H\x1b[9999L", "A.|B.|C.|..|E.", 3, 0},
		{"\x1b[2;4r\x1b[1;2H\x1b[L", "A.|B.|C.|D.|E.", 0, 1},
		{"\x1b[2;4r\x1b[5;2H\x1b[L", "A.|B.|C.|D.|E.", 4, 1},
		{"\x1b[2;4r\x1b[3;2H\x1b[M", "A.|B.|D.|..|E.", 2, 0},
		{"\x1b[2;4r\x1b[2;2H\x1b[2M", "A.|D.|..|..|E.", 1, 0},
		{"\x1b[2;4r\x1b[4;2H\x1b[9999M", "A.|B.|C.|..|E.", 3, 0},
		{"\x1b[2;4r\x1b[1;2H\x1b[M", "A.|B.|C.|D.|E.", 0, 1},
		{"\x1b[2;4r\x1b[5;2H\x1b[M", "A.|B.|C.|D.|E.", 4, 1},
		{"\x1b[H\x1b[M", "B.|C.|D.|E.|..", 0, 0},
		{"\x1b[H\x1b[0L", "..|A.|B.|C.|D.", 0, 0},
		// A test, and as at first, make it all rows.
		{"\x1b[2;4r\x1b#8\x1b[5HX\n", "EE|EE|EE|XE|..", 4, 1},
		{"\x1b[2;4r\x1bc\x1b[5HX\n", "..|..|..|X.|..", 4, 1},
	} {
		x.says = five + x.says
		wantAll(t, []example{x})
	}
	// One row is no region but at first.
	wantAll(t, []example{{"A\x1b[r", "A.", 0, 1}, {"A\x1b[1;1r", "A.", 0, 1}, {"A\nB", ".B.", 0, 2}, {"A\x1b[2S", "..", 0, 1}})
	// A new size makes it all rows, too.
	got := told(t, 5, 2, five+"\x1b[2;4r")
	got.Resize(5, 2)
	got.Feed([]byte("\x1b[5H\n"))
	wantShown(t, got, "Resize", "B.|C.|D.|E.|..", 4, 0)
}

// P19.2: where the cursor goes.
func TestMoves(t *testing.T) {
	const blank = "......|......|......|......|......|......"
	for _, x := range []example{
		{"A", blank, 2, 3}, {"0A", blank, 2, 3}, {"1A", blank, 2, 3}, {"2A", blank, 1, 3}, {"3A", blank, 0, 3}, {"9999A", blank, 0, 3},
		{"B", blank, 4, 3}, {"0B", blank, 4, 3}, {"2B", blank, 5, 3}, {"3B", blank, 5, 3}, {"9999B", blank, 5, 3},
		{"C", blank, 3, 4}, {"0C", blank, 3, 4}, {"2C", blank, 3, 5}, {"3C", blank, 3, 5}, {"99999999C", blank, 3, 5},
		{"D", blank, 3, 2}, {"0D", blank, 3, 2}, {"3D", blank, 3, 0}, {"4D", blank, 3, 0}, {"9999D", blank, 3, 0},
		{"E", blank, 4, 0}, {"0E", blank, 4, 0}, {"2E", blank, 5, 0}, {"9E", blank, 5, 0},
		{"F", blank, 2, 0}, {"0F", blank, 2, 0}, {"3F", blank, 0, 0}, {"9F", blank, 0, 0},
		{"G", blank, 3, 0}, {"0G", blank, 3, 0}, {"1G", blank, 3, 0}, {"2G", blank, 3, 1}, {"6G", blank, 3, 5}, {"7G", blank, 3, 5}, {"9999G", blank, 3, 5},
		{"d", blank, 0, 3}, {"0d", blank, 0, 3}, {"1d", blank, 0, 3}, {"2d", blank, 1, 3}, {"6d", blank, 5, 3}, {"7d", blank, 5, 3}, {"9999d", blank, 5, 3},
		{"H", blank, 0, 0}, {"0;0H", blank, 0, 0}, {"2H", blank, 1, 0}, {";2H", blank, 0, 1}, {"2;3H", blank, 1, 2}, {"2;3;4H", blank, 1, 2}, {"6;6H", blank, 5, 5}, {"7;7H", blank, 5, 5}, {"9999;9999H", blank, 5, 5},
		{"f", blank, 0, 0}, {"2f", blank, 1, 0}, {";2f", blank, 0, 1}, {"2;3f", blank, 1, 2}, {"9999;9999f", blank, 5, 5},
		{"2;9A", blank, 1, 3}, {";9A", blank, 2, 3},
		// Others do nothing, nor do those with something beside the numbers.
		{"I", blank, 3, 3}, {"N", blank, 3, 3}, {"Z", blank, 3, 3}, {"a", blank, 3, 3}, {"e", blank, 3, 3}, {"`", blank, 3, 3}, {"~", blank, 3, 3}, {"n", blank, 3, 3},
		{"?A", blank, 3, 3}, {"?2;2H", blank, 3, 3}, {">A", blank, 3, 3}, {"<A", blank, 3, 3}, {"=A", blank, 3, 3}, {" A", blank, 3, 3}, {"2;2 H", blank, 3, 3}, {"2;2$f", blank, 3, 3}, {"?s", blank, 3, 3}, {"?u", blank, 3, 3}, {" u", blank, 3, 3},
	} {
		x.says = "\x1b[4;4H\x1b[" + x.says
		wantAll(t, []example{x})
	}
	// Within the region its borders stop it, and outside those of the screen; from outside it goes to the region's far border.
	for _, x := range []example{
		{"3;2H\x1b[9A", blank, 1, 1}, {"3;2H\x1b[9F", blank, 1, 0}, {"3;2H\x1b[9B", blank, 3, 1}, {"3;2H\x1b[9E", blank, 3, 0}, {"3;2H\x1b[A", blank, 1, 1}, {"3;2H\x1b[B", blank, 3, 1},
		{"2;2H\x1b[A", blank, 1, 1}, {"2;2H\x1b[F", blank, 1, 0}, {"4;2H\x1b[B", blank, 3, 1}, {"4;2H\x1b[E", blank, 3, 0},
		{"1;2H\x1b[A", blank, 0, 1}, {"1;2H\x1b[9B", blank, 3, 1}, {"1;2H\x1b[9E", blank, 3, 0}, {"1;2H\x1b[B", blank, 1, 1},
		{"6;2H\x1b[B", blank, 5, 1}, {"6;2H\x1b[9A", blank, 1, 1}, {"6;2H\x1b[9F", blank, 1, 0}, {"6;2H\x1b[A", blank, 4, 1}, {"5;2H\x1b[B", blank, 5, 1}, {"5;2H\x1b[9E", blank, 5, 0}, {"5;2H\x1b[9B", blank, 5, 1},
	} {
		x.says = "\x1b[2;4r\x1b[" + x.says
		wantAll(t, []example{x})
	}
	// Two rows above the region.
	wantAll(t, []example{{"\x1b[3;4r\x1b[2;2H\x1b[A", blank, 0, 1}, {"\x1b[3;4r\x1b[2;2H\x1b[9F", blank, 0, 0}})
}

// P19.2: rows that are counted from the top on.
func TestOrigin(t *testing.T) {
	const blank = "...|...|...|...|..."
	for _, x := range []example{
		{"", blank, 1, 0}, {"\x1b[H", blank, 1, 0}, {"\x1b[2;2H", blank, 2, 1}, {"\x1b[3;2f", blank, 3, 1}, {"\x1b[4;2H", blank, 3, 1}, {"\x1b[9999;9999f", blank, 3, 2}, {"\x1b[2C\x1b[2d", blank, 2, 2}, {"\x1b[d", blank, 1, 0}, {"\x1b[4d", blank, 3, 0}, {"\x1b[9999d", blank, 3, 0},
		{"\x1b[r", blank, 0, 0}, {"\x1b[3;4r", blank, 2, 0}, {"\x1b[2;2H\x1b[4;3r", blank, 2, 1}, {"\x1b[2;2H\x1b#8", "EEE|EEE|EEE|EEE|EEE", 0, 0},
		{"\x1b[2;2H\x1b[?6l", blank, 0, 0}, {"\x1b[2;2H\x1b[?6h", blank, 1, 0}, {"\x1b[2;2H\x1b[?6l\x1b[2;2H", blank, 1, 1}, {"\x1b[2;2H\x1b[?6l\x1b[9d", blank, 4, 0},
		{"\x1b[2;2H\x1b[?6;25;6l", blank, 0, 0}, {"\x1b[2;2H\x1b[6l\x1b[>6l\x1b[?6 l", blank, 2, 1},
		// Other moves are not held by it.
		{"\x1bM\x1b[?25h\x1b[A", blank, 1, 0}, {"\x1b[?6l\x1b[5;3H\x1b7\x1b[?6h\x1b8\x1b[2H", blank, 1, 0},
		// What is saved has it, and the place as it is.
		{"\x1b[2;2H\x1b7\x1b[?6l\x1b8", blank, 2, 1}, {"\x1b[2;2H\x1b7\x1b[?6l\x1b8\x1b[H", blank, 1, 0}, {"\x1b8", blank, 0, 0}, {"\x1b8\x1b[2H", blank, 1, 0},
		{"\x1bc\x1b[2;2H", blank, 1, 1}, {"\x1bc\x1b[2;4r\x1b[H", blank, 0, 0},
	} {
		x.says = "\x1b[2;4r\x1b[?6h" + x.says
		wantAll(t, []example{x})
	}
	wantAll(t, []example{{"\x1b[2;2H\x1b[?6h", blank, 0, 0}, {"\x1b[2;2H\x1b[?6l", blank, 0, 0}, {"\x1b[?6h\x1b[3;2H", blank, 2, 1}})
	// A new size makes the region all rows: rows are counted from 0 on then.
	got := told(t, 5, 3, "\x1b[2;4r\x1b[?6h")
	got.Resize(5, 3)
	got.Feed([]byte("\x1b[5;2H"))
	wantShown(t, got, "Resize", blank, 4, 1)
}

// P19.2: what is erased, inserted and deleted.
func TestErase(t *testing.T) {
	const full = "ABCDEFGHIJKLMNO"
	for _, x := range []example{
		{"J", "ABCDE|FG...|.....", 1, 2}, {"0J", "ABCDE|FG...|.....", 1, 2}, {"1J", ".....|...IJ|KLMNO", 1, 2}, {"2J", ".....|.....|.....", 1, 2}, {"3J", "ABCDE|FGHIJ|KLMNO", 1, 2}, {"9999J", "ABCDE|FGHIJ|KLMNO", 1, 2}, {"?J", "ABCDE|FGHIJ|KLMNO", 1, 2}, {"?2J", "ABCDE|FGHIJ|KLMNO", 1, 2}, {" J", "ABCDE|FGHIJ|KLMNO", 1, 2}, {"0;2J", "ABCDE|FG...|.....", 1, 2}, {";2J", "ABCDE|FG...|.....", 1, 2},
		{"K", "ABCDE|FG...|KLMNO", 1, 2}, {"0K", "ABCDE|FG...|KLMNO", 1, 2}, {"1K", "ABCDE|...IJ|KLMNO", 1, 2}, {"2K", "ABCDE|.....|KLMNO", 1, 2}, {"3K", "ABCDE|FGHIJ|KLMNO", 1, 2}, {"?2K", "ABCDE|FGHIJ|KLMNO", 1, 2}, {"1;2K", "ABCDE|...IJ|KLMNO", 1, 2},
		{"@", "ABCDE|FG.HI|KLMNO", 1, 2}, {"0@", "ABCDE|FG.HI|KLMNO", 1, 2}, {"2@", "ABCDE|FG..H|KLMNO", 1, 2}, {"3@", "ABCDE|FG...|KLMNO", 1, 2}, {"9999@", "ABCDE|FG...|KLMNO", 1, 2}, {" @", "ABCDE|FGHIJ|KLMNO", 1, 2},
		{"P", "ABCDE|FGIJ.|KLMNO", 1, 2}, {"0P", "ABCDE|FGIJ.|KLMNO", 1, 2}, {"2P", "ABCDE|FGJ..|KLMNO", 1, 2}, {"3P", "ABCDE|FG...|KLMNO", 1, 2}, {"9999P", "ABCDE|FG...|KLMNO", 1, 2}, {"?P", "ABCDE|FGHIJ|KLMNO", 1, 2},
		{"X", "ABCDE|FG.IJ|KLMNO", 1, 2}, {"0X", "ABCDE|FG.IJ|KLMNO", 1, 2}, {"2X", "ABCDE|FG..J|KLMNO", 1, 2}, {"3X", "ABCDE|FG...|KLMNO", 1, 2}, {"9999X", "ABCDE|FG...|KLMNO", 1, 2}, {">X", "ABCDE|FGHIJ|KLMNO", 1, 2},
		// The region does not hold it.
		{"r\x1b[2;3r\x1b[H\x1b[J", ".....|.....|.....", 0, 0}, {"r\x1b[1;2r\x1b[3;5H\x1b[1J", ".....|.....|.....", 2, 4}, {"r\x1b[2;3r\x1b[H\x1b[P", "BCDE.|FGHIJ|KLMNO", 0, 0},
		// At the borders of the screen.
		{"H\x1b[1J", ".BCDE|FGHIJ|KLMNO", 0, 0}, {"9;9H\x1b[J", "ABCDE|FGHIJ|KLMN.", 2, 4}, {"9;9H\x1b[9@", "ABCDE|FGHIJ|KLMN.", 2, 4}, {"9;9H\x1b[9P", "ABCDE|FGHIJ|KLMN.", 2, 4}, {"9;9H\x1b[9X", "ABCDE|FGHIJ|KLMN.", 2, 4}, {"H\x1b[1K", ".BCDE|FGHIJ|KLMNO", 0, 0},
		// A print inserts, as long as it is said.
		{"4hX", "ABCDE|FGXHI|KLMNO", 1, 3}, {"4hXY", "ABCDE|FGXYH|KLMNO", 1, 4}, {"4hXYZ", "ABCDE|FGXYZ|KLMNO", 1, 4}, {"4hXYZW", "ABCDE|FGXYZ|WKLMN", 2, 1}, {"4hX\x1b[4lY", "ABCDE|FGXYI|KLMNO", 1, 4}, {"4;20hX", "ABCDE|FGXHI|KLMNO", 1, 3}, {"?4hX", "ABCDE|FGXIJ|KLMNO", 1, 3}, {"14hX", "ABCDE|FGXIJ|KLMNO", 1, 3}, {"hX", "ABCDE|FGXIJ|KLMNO", 1, 3}, {"4 hX", "ABCDE|FGXIJ|KLMNO", 1, 3}, {"4h\x1b[?4lX", "ABCDE|FGXHI|KLMNO", 1, 3}, {"4h\x1b[5lX", "ABCDE|FGXHI|KLMNO", 1, 3},
		{"4h\x1b[2G\x1bcX", "X....|.....|.....", 0, 1},
	} {
		x.says = full + "\x1b[2;3H\x1b[" + x.says
		wantAll(t, []example{x})
	}
	wantAll(t, []example{{"AB\x1b[4h\rC\x1b[2GD", "CD", 0, 1}, {"\x1b[?7l\x1b[4hABC", "AC", 0, 1}})
}

// P19.2: what is saved.
func TestSaved(t *testing.T) {
	wantAll(t, []example{
		{"AB\x1b7C\r\n\x1b8X", "ABX.|....", 0, 3},
		{"AB\x1b[sC\r\n\x1b[uX", "ABX.|....", 0, 3},
		{"AB\x1b7C\r\n\x1b[uX", "ABX.|....", 0, 3},
		{"AB\x1b[sC\r\n\x1b8X", "ABX.|....", 0, 3},
		{"AB\x1b8X", "XB..|....", 0, 1},
		{"AB\x1b[uX", "XB..|....", 0, 1},
		{"AB\x1b7\x1bc\x1b[2;2H\x1b8X", "X...|....", 0, 1},
		{"AB\x1b7C\x1b8X\x1b8Y", "ABY.|....", 0, 3},
		{"AB\x1b#7\x1b 7\x1b8X", "XB..|....", 0, 1},
		{"AB\x1b7\r\x1b(8X", "XB..|....", 0, 1},
		// The style, and not the modes.
		{"\x1b[41m\x1b7\x1b[m\x1b8\x1b[K", "____|....", 0, 0},
		{"\x1b[41m\x1b8\x1b[K", "....|....", 0, 0},
		{"\x1b7\x1b[?7l\x1b8\x1b[4GAB", "...B|....", 0, 3},
		{"AB\x1b7\x1b[4h\x1b8\rX", "XAB.|....", 0, 1},
	})
	// What is saved stays where it was, whatever the size is; where it is no place then, the nearest one is meant.
	got := told(t, 5, 10, "\x1b[5;9H\x1b7")
	got.Resize(2, 3)
	got.Feed([]byte("\r\x1b8"))
	wantShown(t, got, "smaller", "...|...", 1, 2)
	got.Resize(5, 10)
	got.Feed([]byte("\r\x1b8"))
	wantShown(t, got, "greater again", strings.TrimSuffix(strings.Repeat("..........|", 5), "|"), 4, 8)
}

// P19.2: the other screen.
func TestOther(t *testing.T) {
	for _, x := range []struct {
		says, want string
		other      bool
	}{
		{"A", "A.|..", false},
		{"A\x1b[?1047h", "..|..", true},
		{"A\x1b[?1049h", "..|..", true},
		{"A\x1b[?1049hB", ".B|..", true},
		{"A\x1b[?1049hB\x1b[?1047h", ".B|..", true},
		{"A\x1b[?1049hB\x1b[?1049h\x1b[41m\x1b[?1047h", ".B|..", true},
		{"A\x1b[?1049hB\x1b[?1049l", "A.|..", false},
		{"A\x1b[?1047hB\x1b[?1049lC", "A.|C.", false},
		{"A\x1b[?1049hB\x1b[?1047l\x1b[?1047h", "..|..", true},
		{"A\x1b[?1049hB\x1b[?1047l\x1b[41m\x1b[?1047h", "__|__", true},
		{"A\x1b[?1049l", "A.|..", false},
		{"A\x1b[?1;1049hB", ".B|..", true},
		{"A\x1b[?1049;1047hB", ".B|..", true},
		{"A\x1b[?1048h\x1b[?47h\x1b[1049h\x1b[>1049h\x1b[?1049 h\x1b[?1049s", "A.|..", false},
		{"A\x1b[?1049hB\x1bc", "..|..", false},
		{"A\x1b[?1049hB\x1bc\x1b[?1049h", "..|..", true},
		{"\x1b[?1049h\x1b#8\x1b[?1049l", "..|..", false},
		{"\x1b#8\x1b[?1049h", "..|..", true},
		{"A\x1b[?1049h\x1b[2J\x1b[S\x1b[?1049l", "A.|..", false},
	} {
		got := told(t, 2, 2, x.says)
		if s := shown(got); s != x.want || got.Other() != x.other {
			t.Errorf("of %q comes %s, %v, want %s, %v", x.says, s, got.Other(), x.want, x.other)
		}
	}
	// Both have one cursor, and both get a new size.
	got := told(t, 2, 2, "AB\x1b[?1049hXY\x1b[?1049l")
	got.Resize(1, 3)
	wantShown(t, got, "Resize", "AB.", 0, 1)
	got = told(t, 2, 2, "ABCD\x1b[?1049h")
	got.Resize(1, 3)
	got.Feed([]byte("XY"))
	wantShown(t, got, "Resize", ".XY", 0, 2)
	got.Feed([]byte("\x1b[?1049l"))
	wantShown(t, got, "Resize", "AB.", 0, 2)
}

// P19.1, P19.2: whether the cursor is visible.
func TestVisible(t *testing.T) {
	for says, want := range map[string]bool{
		"": true, "\x1b[?25l": false, "\x1b[?25l\x1b[?25h": true, "\x1b[?7;25l": false, "\x1b[?25;7l": false, "\x1b[?25l\x1bc": true, "\x1b[25l": true, "\x1b[?25 l": true, "\x1b[>25l": true, "\x1b[?l": true, "\x1b[?25l\x1b[?h": false, "\x1b[?25l\x1b8": false, "\x1b[?25l\x1b#8": false,
	} {
		if _, _, got := told(t, 2, 2, says).Cursor(); got != want {
			t.Errorf("%q: %v", says, got)
		}
	}
	got := told(t, 2, 2, "\x1b[?25l")
	got.Resize(3, 3)
	if _, _, visible := got.Cursor(); visible {
		t.Error("a new size made it visible")
	}
}

// P19.2, P19.4: titles, clippings and bells; as at first lets them stay.
func TestAsks(t *testing.T) {
	letters := func(n int) string { return base64.StdEncoding.EncodeToString(bytes.Repeat([]byte("x"), n)) }
	long := strings.Repeat("x", 64)
	for _, x := range []struct {
		says, title, clip string
		clips, bells      int
	}{
		{"\x1b]0;a title\x07", "a title", "", 0, 0},
		{"\x1b]2;a title\x1b\\", "a title", "", 0, 0},
		{"\x1b]2;a\x07\x1b]0;b\x07", "b", "", 0, 0},
		{"\x1b]2;a\x07\x1b]2;\x07", "", "", 0, 0},
		{"\x1b]2;a\x07\x1b]1;b\x07\x1b]9;b\x07\x1b]\x07\x1b]2\x07", "a", "", 0, 0},
		{"\x1b]2;" + long + "y\x07", long, "", 0, 0},
		{"\x1b]2;" + long[1:] + "\u20ac\x07", long[1:], "", 0, 0},
		{"\x1b]2;\xff\u00e4\x07", "\uFFFD\u00e4", "", 0, 0},
		{"\x1b]2;a\x07\x1b]2;" + strings.Repeat("x", 598) + "\x07", long, "", 0, 0},
		{"\x1b]2;a\x07\x1b]2;" + strings.Repeat("x", 599) + "\x07", "a", "", 0, 0},
		{"\x1b]2;a\x07\x1b]2;b\x18\x07", "a", "", 0, 1},
		{"\x1b]2;a\x07\x1b]2;b", "a", "", 0, 0},
		{"\x1b]52;c;TWE=\x07", "", "Ma", 1, 0},
		{"\x1b]52;c;TWE=\x07\x1b]52;p;TWFu\x1b\\", "", "Man", 2, 0},
		{"\x1b]52;c;TWE=\x07\x1b]52;c;TWE=\x07\x1b]52;c;TWE=\x07", "", "Ma", 3, 0},
		{"\x1b]52;c;TWE=\x07\x1b]52;c;\x07", "", "", 2, 0},
		{"\x1b]52;c;TWE=\x07\x1b]52;c;?\x07\x1b]52;c\x07\x1b]52;x;TWE=\x07", "", "Ma", 1, 0},
		{"\x1b]52;c;" + letters(256) + "\x07", "", strings.Repeat("x", 256), 1, 0},
		{"\x1b]52;c;TWE=\x07\x1b]52;c;" + letters(257) + "\x07", "", "Ma", 1, 0},
		{"\x07\x1b]2;t\x07\x07\x1b]52;c;TWE=\x07\x07\x1bc", "t", "Ma", 1, 3},
		{"\x07\x07\x1b#8\x1b[2J\x1b[?1049h\x1b]2;t\x07", "t", "", 0, 2},
	} {
		got := told(t, 2, 2, x.says)
		if clip, clips := got.Clip(); got.Title() != x.title || clip != x.clip || clips != x.clips || got.Bells() != x.bells {
			t.Errorf("of %q comes %q, %q, %d, %d, want %q, %q, %d, %d", x.says, got.Title(), clip, clips, got.Bells(), x.title, x.clip, x.clips, x.bells)
		}
		if s := shown(got); s != "..|.." {
			t.Errorf("%q shows %s", x.says, s)
		}
	}
}

// P19.2: as at first.
func TestRestart(t *testing.T) {
	r := rand.New(rand.NewSource(192))
	for range 300 {
		rows, cols := 1+r.Intn(5), 1+r.Intn(20)
		var says string
		for range 30 {
			says += say(r)
		}
		got := told(t, rows, cols, says+"\x18\x1bc")
		m := worded(rows, cols, map[string]int{})
		m.title = got.Title()
		m.clip, m.clips = got.Clip()
		m.bells = got.Bells()
		against(t, got, m, "as at first")
		for range 30 {
			what := say(r)
			got.Feed([]byte(what))
			m.feed([]byte(what))
			against(t, got, m, "behind it")
		}
	}
}

// P19.2: a new size.
func TestResize(t *testing.T) {
	for _, x := range []struct {
		says       string
		rows, cols int
		more, want string
		row, col   int
	}{
		{"ABCDEF", 2, 3, "", "ABC|DEF", 1, 2},
		{"ABCDEF", 2, 3, "X", "ABC|DEX", 1, 2},
		{"ABCDEF", 3, 4, "", "ABC.|DEF.|....", 1, 2},
		{"ABCDEF", 3, 4, "X", "ABC.|DEX.|....", 1, 3},
		{"ABCDEF", 1, 2, "", "AB", 0, 1},
		{"ABCDEF", 1, 2, "X", "AX", 0, 1},
		{"ABCDEF", 1, 2, "XY", "Y.", 0, 1},
		{"ABCD", 2, 2, "", "AB|D.", 1, 1},
		{"ABCD", 1, 3, "X", "AXC", 0, 2},
		{"ABCD\x1b[H", 1, 1, "", "A", 0, 0},
		{"\x1b[41mABCD", 3, 4, "", "ABC.|D...|....", 1, 1},
		{"\x1b[41mABCD\x1b[K", 3, 4, "\x1b[K", "ABC.|D___|....", 1, 1},
	} {
		got := told(t, 2, 3, x.says)
		if e := got.Resize(x.rows, x.cols); e != api.OK {
			t.Fatal(e)
		}
		got.Feed([]byte(x.more))
		wantShown(t, got, x.says, x.want, x.row, x.col)
	}
	// What may not be changes nothing: it hangs as it did, and what waits goes on.
	for _, size := range []place{{0, 1}, {1, 0}, {13, 1}, {1, 41}, {-1, -1}, {math.MinInt, 3}, {2, math.MaxInt}, {math.MaxInt, math.MaxInt}} {
		got := told(t, 2, 3, "\x1b[1;2rABC\xe2\x82")
		if e := got.Resize(size.row, size.col); e != api.ErrArg {
			t.Errorf("Resize(%v): %v", size, e)
		}
		got.Feed([]byte("\xac\x1b["))
		if e := got.Resize(size.row, size.col); e != api.ErrArg {
			t.Errorf("Resize(%v): %v", size, e)
		}
		got.Feed([]byte("2G"))
		wantShown(t, got, "Resize", "ABC|\u20ac..", 1, 1)
	}
	// A new size breaks off nothing that waits.
	got := told(t, 2, 3, "A\xe2\x82")
	got.Resize(1, 4)
	got.Feed([]byte("\xac\x1b[4"))
	got.Resize(1, 5)
	got.Feed([]byte("GB"))
	wantShown(t, got, "Resize", "A\u20ac.B.", 0, 4)
}

// P19.2: each short sequence, and each control sequence, with each byte that may stand between, and each sign: those that are not named do nothing.
func TestOthers(t *testing.T) {
	const says = "\x1b[2;3r\x1b[41mABCDEFGHIJKL\x1b7\x1b[2;2H"
	sames := 0
	same := func(more string) {
		t.Helper()
		sames++
		got, want := told(t, 4, 3, says+more), told(t, 4, 3, says)
		for _, probe := range []string{"", "Y", "\x1b[3;3HAB", "\t", "\x1b[H\x1bM", "\x1b8Z", "\x1b[?1049l"} {
			got.Feed([]byte(probe))
			want.Feed([]byte(probe))
			row, col, visible := got.Cursor()
			if row2, col2, visible2 := want.Cursor(); !got.Grid().Same(want.Grid()) || row != row2 || col != col2 || visible != visible2 || got.Other() != want.Other() || got.Bells() != want.Bells() || got.Title() != want.Title() {
				t.Errorf("%q did something: %s, %d, %d, want %s, %d, %d", more, shown(got), row, col, shown(want), row2, col2)
			}
		}
	}
	between := " !\"#$%&'()*+,-./"
	for final := byte(0x30); final <= 0x7E; final++ {
		end := string([]byte{final})
		if !strings.Contains("DEMH78c[]", end) {
			same("\x1b" + end)
		}
		for _, inter := range between {
			if inter != '#' || final != '8' {
				same("\x1b" + string(inter) + end)
			}
		}
		if final < 0x40 {
			continue
		}
		for _, number := range []string{"", "0", "1", "2", "3", "4", "6", "7", "25", "1047", "1049", "2;3", "4;6;7;25;1049"} {
			if !strings.Contains("ABCDEFGdHfJKLM@PXSTghlmrsu", end) {
				same("\x1b[" + number + end)
			}
			for _, inter := range between {
				same("\x1b[" + number + string(inter) + end)
				same("\x1b[?" + number + string(inter) + end)
			}
			for _, sign := range "<=>" {
				same("\x1b[" + string(sign) + number + end)
			}
			if final != 'h' && final != 'l' {
				same("\x1b[?" + number + end)
			}
		}
	}
	for n := range 2000 {
		if n != 6 && n != 7 && n != 25 && n != 1047 && n != 1049 && n%7 == 0 {
			same("\x1b[?" + strconv.Itoa(n) + "h")
		}
	}
	if sames < 1000 {
		t.Errorf("%d were looked at", sames)
	}
}

// Rule 5: what is handed in is neither changed nor kept, and what is handed out is new.
func TestMemory(t *testing.T) {
	got, _ := term.New(2, 4)
	for range 3 {
		b := []byte("\x1b[HAB\xe2\x82\xac\x1b]2;title\x07\x1b]52;c;TWE=\x07\x1b[4")
		was := bytes.Clone(b)
		got.Feed(b)
		if !bytes.Equal(b, was) {
			t.Fatal("what was handed in was changed")
		}
		for i := range b {
			b[i] = 'x'
		}
		if clip, _ := got.Clip(); got.Title() != "title" || clip != "Ma" {
			t.Errorf("%q, %q", got.Title(), clip)
		}
		got.Feed([]byte("GC"))
		wantShown(t, got, "kept", "AB\u20acC|....", 0, 3)
	}
	g, other := got.Grid(), got.Grid()
	g.Put(0, 0, usual('x'))
	g.Resize(1, 1, usual('y'))
	wantShown(t, got, "handed out", "AB\u20acC|....", 0, 3)
	if c, _ := other.At(0, 0); c != usual('A') {
		t.Errorf("two grids are one: %v", c)
	}
	got.Feed([]byte("\x1b[2J"))
	if c, _ := other.At(0, 0); c != usual('A') {
		t.Errorf("what was handed out was changed: %v", c)
	}
	// What lies behind the length is not read.
	b := []byte("ABCDEF")
	got = told(t, 1, 7, "")
	got.Feed(b[:3])
	wantShown(t, got, "behind", "ABC....", 0, 3)
}

// P19.3, P1: long texts, of which points and sequences stand across any border; what is no sequence at all.
func TestLong(t *testing.T) {
	for _, piece := range []string{"\u20ac", "\U0001F600x", "\x1b[1;31;41mA", "\x1b]2;a title\x07\x1b[H\x07", "AB\r\n", "\xe2\x82", "\x1b[?1049h\x1b[?1049l.", strings.Repeat("\x1b[9999;9999HA\x1b[9999@\x1b[9999P\x1b[9999X\x1b[9999S\x1b[9999T", 2)} {
		for ahead := range 3 {
			b := []byte(strings.Repeat("x", ahead) + strings.Repeat(piece, 2500))
			got, m := told(t, 3, 7, string(b)), worded(3, 7, map[string]int{})
			m.feed(b)
			against(t, got, m, piece)
		}
	}
	r := rand.New(rand.NewSource(191))
	for range 200 {
		b := make([]byte, r.Intn(4000))
		for i := range b {
			b[i] = byte(r.Intn(256))
			if r.Intn(4) == 0 {
				b[i] = "\x1b[?;0123456789hHmJKrLM"[r.Intn(22)]
			}
		}
		got, m := told(t, 4, 6, string(b)), worded(4, 6, map[string]int{})
		m.feed(b)
		against(t, got, m, "any bytes")
	}
	for _, n := range []int{1023, 1024, 1025, 2047, 2048, 2049, 1 << 22} {
		if got := told(t, 1, 1, strings.Repeat("\x07", n)).Bells(); got != n {
			t.Errorf("of %d bells %d rang", n, got)
		}
	}
}

// Rule 7: what was said to another terminal does not count.
func TestAlone(t *testing.T) {
	r := rand.New(rand.NewSource(197))
	a, _ := term.New(3, 5)
	b, _ := term.New(3, 5)
	m, o := worded(3, 5, map[string]int{}), worded(3, 5, map[string]int{})
	for range 300 {
		x, y := []byte(say(r)), []byte(say(r))
		a.Feed(x)
		b.Feed(y)
		m.feed(x)
		o.feed(y)
		against(t, a, m, "one")
		against(t, b, o, "the other")
	}
}

// The document's example: A, B on two columns, and C.
func TestExample(t *testing.T) {
	got := told(t, 2, 2, "ABC")
	if c, e := got.Grid().At(1, 0); e != api.OK || c != usual('C') {
		t.Errorf("%+v, %v", c, e)
	}
}
