package term_test

import (
	"math/rand"
	"slices"
	"strconv"
	"strings"
	"testing"

	"longline/ansi"
	"longline/api"
	"longline/grid"
	"longline/osc"
	"longline/style"
	"longline/term"
	"longline/utf"
)

// place is where a cell stands.
type place struct{ row, col int }

// nearest is the number from 0 on ahead of most that is nearest.
func nearest(n, most int) int {
	best := 0
	for i := range most {
		if abs(n-i) < abs(n-best) {
			best = i
		}
	}
	return best
}

func abs(n int) int {
	if n < 0 {
		return -n
	}
	return n
}

// model is a terminal as the document words it: cells by their places, each event told by where what is shown now stood ahead.
type model struct {
	rows, cols              int
	cells                   [2]map[place]grid.Cell
	shown                   int
	at                      place
	hangs                   bool
	look                    style.Style
	top, bottom             int
	wraps, inserts, visible bool
	origin                  bool
	stops                   map[int]bool
	savedAt                 place
	savedLook               style.Style
	savedOrigin             bool
	title, clip             string
	clips, bells            int
	reader                  *utf.Reader
	parser                  *ansi.Parser
	// how often each case was met
	seen map[string]int
}

func worded(rows, cols int, seen map[string]int) *model {
	m := &model{rows: rows, cols: cols, reader: utf.New(), parser: ansi.New(), seen: seen}
	m.first()
	return m
}

// first is what a terminal is at first, but what stays.
func (m *model) first() {
	*m = model{rows: m.rows, cols: m.cols, title: m.title, clip: m.clip, clips: m.clips, bells: m.bells, reader: m.reader, parser: m.parser, seen: m.seen,
		bottom: m.rows - 1, wraps: true, visible: true, stops: map[int]bool{8: true, 16: true, 24: true, 32: true}}
	for i := range m.cells {
		m.cells[i] = map[place]grid.Cell{}
		m.turn(i, func(place) bool { return true }, func(place) grid.Cell { return usual(' ') })
	}
}

func usual(p int32) grid.Cell { return grid.Cell{Point: p} }

// turn tells those cells of a screen anew at whose places turns says so.
func (m *model) turn(i int, turns func(p place) bool, tell func(p place) grid.Cell) {
	next := map[place]grid.Cell{}
	for row := range m.rows {
		for col := range m.cols {
			p := place{row, col}
			next[p] = m.cells[i][p]
			if turns(p) {
				next[p] = tell(p)
			}
		}
	}
	m.cells[i] = next
}

func (m *model) erased() grid.Cell {
	return grid.Cell{Point: 32, Style: style.Style{Bg: m.look.Bg}}
}

func (m *model) erase(turns func(p place) bool) {
	m.turn(m.shown, turns, func(place) grid.Cell { return m.erased() })
}

// rowsMoved makes each row from top to bottom what the one by further was, or erased.
func (m *model) rowsMoved(top, bottom, by int) {
	was := m.cells[m.shown]
	m.turn(m.shown, func(p place) bool { return p.row >= top && p.row <= bottom }, func(p place) grid.Cell {
		if p.row+by < top || p.row+by > bottom {
			return m.erased()
		}
		return was[place{p.row + by, p.col}]
	})
}

// cellsMoved makes each cell of the cursor's row from it on what the one by further was, or erased.
func (m *model) cellsMoved(by int) {
	was := m.cells[m.shown]
	m.turn(m.shown, func(p place) bool { return p.row == m.at.row && p.col >= m.at.col }, func(p place) grid.Cell {
		if p.col+by < m.at.col || p.col+by >= m.cols {
			return m.erased()
		}
		return was[place{p.row, p.col + by}]
	})
}

func (m *model) move(row, col int) {
	m.at = place{nearest(row, m.rows), nearest(col, m.cols)}
	m.hangs = false
}

func (m *model) index() {
	switch {
	case m.at.row == m.bottom:
		m.seen["index at the bottom"]++
		m.rowsMoved(m.top, m.bottom, 1)
		m.move(m.at.row, m.at.col)
	case m.at.row == m.rows-1:
		m.seen["index below the region"]++
		m.move(m.at.row, m.at.col)
	default:
		m.move(m.at.row+1, m.at.col)
	}
}

func (m *model) feed(b []byte) {
	points, _ := m.reader.Read(b)
	events, _ := m.parser.Feed(points)
	for _, e := range events {
		m.take(e)
	}
}

func (m *model) take(e ansi.Event) {
	switch e.Kind {
	case ansi.Print:
		m.print(e.Point)
	case ansi.Control:
		m.control(e.Point)
	case ansi.Esc:
		m.esc(string([]byte{e.Inter, e.Final}))
	case ansi.Csi:
		switch {
		case e.Private == 0 && e.Inter == 0:
			m.csi(e.Final, e.Params)
		case e.Private == '?' && e.Inter == 0 && (e.Final == 'h' || e.Final == 'l'):
			for _, n := range e.Params {
				m.mode(n, e.Final == 'h')
			}
		default:
			m.seen["another csi"]++
		}
	case ansi.Osc:
		a, _ := osc.Read(e.Text)
		if a.Kind == osc.Title {
			m.seen["title"]++
			m.title = a.Data
		}
		if a.Kind == osc.Clip {
			m.seen["clip"]++
			m.clip, m.clips = a.Data, m.clips+1
		}
	}
}

func (m *model) print(p int32) {
	if m.hangs && !m.wraps {
		m.seen["hangs without wraps"]++
	}
	if m.hangs && m.wraps {
		m.seen["wrapped"]++
		m.move(m.at.row, 0)
		m.index()
	}
	if m.inserts {
		m.seen["inserted"]++
		m.cellsMoved(-1)
	}
	m.cells[m.shown][m.at] = grid.Cell{Point: p, Style: m.look}
	if m.at.col == m.cols-1 && m.wraps {
		m.hangs = true
	} else {
		m.move(m.at.row, m.at.col+1)
	}
}

func (m *model) control(p int32) {
	switch p {
	case 7:
		m.seen["bell"]++
		m.bells++
	case 8:
		m.move(m.at.row, m.at.col-1)
	case 9:
		col := m.at.col + 1
		for col < m.cols-1 && !m.stops[col] {
			col++
		}
		m.move(m.at.row, col)
	case 10, 11, 12:
		m.index()
	case 13:
		m.move(m.at.row, 0)
	}
}

func (m *model) esc(s string) {
	m.seen["esc "+strings.Trim(s, "\x00")]++
	switch s {
	case "\x00D":
		m.index()
	case "\x00E":
		m.move(m.at.row, 0)
		m.index()
	case "\x00M":
		if m.at.row == m.top {
			m.seen["up at the top"]++
			m.rowsMoved(m.top, m.bottom, -1)
			m.move(m.at.row, m.at.col)
		} else {
			m.move(m.at.row-1, m.at.col)
		}
	case "\x00H":
		m.stops[m.at.col] = true
	case "\x007":
		m.save()
	case "\x008":
		m.restore()
	case "\x00c":
		m.first()
	case "#8":
		m.turn(m.shown, func(place) bool { return true }, func(place) grid.Cell { return usual('E') })
		m.top, m.bottom = 0, m.rows-1
		m.move(0, 0)
	}
}

func (m *model) save() { m.savedAt, m.savedLook, m.savedOrigin = m.at, m.look, m.origin }

func (m *model) restore() {
	m.look, m.origin = m.savedLook, m.savedOrigin
	m.move(m.savedAt.row, m.savedAt.col)
}

func (m *model) home() {
	if m.origin {
		m.move(m.top, 0)
	} else {
		m.move(0, 0)
	}
}

// toRow goes to a row that is told by a number.
func (m *model) toRow(n, col int) {
	row := n - 1
	if m.origin {
		m.seen["rows from the top on"]++
		row = m.top
		for i := 1; i < n && row < m.bottom; i++ {
			row++
		}
	}
	m.move(row, col)
}

// inside tells whether the cursor is in the region.
func (m *model) inside() bool { return m.at.row >= m.top && m.at.row <= m.bottom }

// upOrDown goes by rows, one by one, and stops at the region's border that it comes to from within, or from beyond.
func (m *model) upOrDown(by, n int) {
	m.move(m.at.row, m.at.col)
	for range n {
		if by < 0 && m.at.row == m.top || by > 0 && m.at.row == m.bottom {
			return
		}
		m.move(m.at.row+by, m.at.col)
	}
}

func (m *model) csi(final byte, params []int) {
	m.seen["csi "+string(rune(final))]++
	raw, n, second := 0, 1, 1
	if len(params) > 0 {
		raw = params[0]
	}
	if raw > 0 {
		n = raw
	}
	if len(params) > 1 && params[1] > 0 {
		second = params[1]
	}
	at := m.at
	switch final {
	case 'A':
		m.upOrDown(-1, n)
	case 'B':
		m.upOrDown(1, n)
	case 'C':
		m.move(at.row, at.col+n)
	case 'D':
		m.move(at.row, at.col-n)
	case 'E':
		m.upOrDown(1, n)
		m.move(m.at.row, 0)
	case 'F':
		m.upOrDown(-1, n)
		m.move(m.at.row, 0)
	case 'G':
		m.move(at.row, n-1)
	case 'd':
		m.toRow(n, at.col)
	case 'H', 'f':
		m.toRow(n, second-1)
	case 'J':
		order := func(p place) int { return p.row*m.cols + p.col }
		m.erase(func(p place) bool {
			return raw == 0 && order(p) >= order(at) || raw == 1 && order(p) <= order(at) || raw == 2
		})
	case 'K':
		m.erase(func(p place) bool {
			return p.row == at.row && (raw == 0 && p.col >= at.col || raw == 1 && p.col <= at.col || raw == 2)
		})
	default:
		m.csiToo(final, params, raw, n)
	}
}

func (m *model) csiToo(final byte, params []int, raw, n int) {
	switch final {
	case 'L', 'M':
		if !m.inside() {
			m.seen["rows outside of the region"]++
			return
		}
		if final == 'L' {
			n = -n
		}
		m.rowsMoved(m.at.row, m.bottom, n)
		m.move(m.at.row, 0)
	case '@':
		m.cellsMoved(-n)
	case 'P':
		m.cellsMoved(n)
	case 'X':
		at := m.at
		m.erase(func(p place) bool { return p.row == at.row && p.col >= at.col && p.col < at.col+n })
	case 'S':
		m.rowsMoved(m.top, m.bottom, n)
	case 'T':
		m.rowsMoved(m.top, m.bottom, -n)
	case 'g':
		if raw == 0 {
			delete(m.stops, m.at.col)
		}
		if raw == 3 {
			m.stops = map[int]bool{}
		}
	case 'h', 'l':
		if raw == 4 {
			m.inserts = final == 'h'
		}
	case 'm':
		m.look = style.Change(m.look, params)
	case 'r':
		last := m.rows
		if len(params) > 1 && params[1] > 0 {
			last = params[1]
		}
		if n < last && last <= m.rows {
			m.seen["region"]++
			m.top, m.bottom = n-1, last-1
			m.home()
		} else {
			m.seen["no region"]++
		}
	case 's':
		m.save()
	case 'u':
		m.restore()
	}
}

func (m *model) mode(n int, on bool) {
	m.seen["mode "+strconv.Itoa(n)]++
	switch n {
	case 6:
		m.origin = on
		m.home()
	case 7:
		m.wraps = on
	case 25:
		m.visible = on
	case 1047, 1049:
		if on && m.shown == 0 {
			m.shown = 1
			m.erase(func(place) bool { return true })
		}
		if !on {
			m.shown = 0
		}
	}
}

func (m *model) resize(rows, cols int) api.Errno {
	if rows < 1 || rows > 12 || cols < 1 || cols > 40 {
		return api.ErrArg
	}
	was := m.cells
	m.rows, m.cols = rows, cols
	for i := range m.cells {
		m.turn(i, func(place) bool { return true }, func(p place) grid.Cell {
			if c, ok := was[i][p]; ok {
				return c
			}
			return usual(' ')
		})
	}
	m.top, m.bottom = 0, rows-1
	m.move(m.at.row, m.at.col)
	return api.OK
}

// against holds a terminal against a model in all that its calls answer.
func against(t *testing.T, got *term.Term, m *model, what string) {
	t.Helper()
	g := got.Grid()
	if g.Rows() != m.rows || g.Cols() != m.cols {
		t.Fatalf("%s: %d rows of %d, want %d of %d", what, g.Rows(), g.Cols(), m.rows, m.cols)
	}
	for p, want := range m.cells[m.shown] {
		if c, e := g.At(p.row, p.col); e != api.OK || c != want {
			t.Fatalf("%s: the cell %v: %+v, %v, want %+v\n%s", what, p, c, e, want, strings.ReplaceAll(shown(got), "|", "\n"))
		}
	}
	row, col, visible := got.Cursor()
	if row != m.at.row || col != m.at.col || visible != m.visible {
		t.Fatalf("%s: the cursor: %d, %d, %v, want %v, %v", what, row, col, visible, m.at, m.visible)
	}
	clip, clips := got.Clip()
	if got.Title() != m.title || clip != m.clip || clips != m.clips || got.Bells() != m.bells || got.Other() != (m.shown == 1) {
		t.Fatalf("%s: %q, %q, %d, %d, %v, want %q, %q, %d, %d, %d", what, got.Title(), clip, clips, got.Bells(), got.Other(), m.title, m.clip, m.clips, m.bells, m.shown)
	}
}

// few is a number as a host says it, most often one of some that are met on small screens, or none.
func few(r *rand.Rand) string {
	return []string{"", "", "0", "1", "1", "2", "2", "3", "3", "4", "5", "6", "7", "8", "12", "40", "9999", "99999999999"}[r.Intn(18)]
}

// say is something that a host may say, by chance.
func say(r *rand.Rand) string {
	switch r.Intn(12) {
	case 0, 1, 2, 3:
		l := []string{"a", "b", "cd", "efg", "hijkl", "x", "y", "Z", " ", "\u00e4", "\u20ac", "\U0001F600", "\xff", "\xe2\x82", "\u0085"}
		return l[r.Intn(len(l))]
	case 4:
		return string([]byte{[]byte("\x07\x08\x08\x09\x09\x0a\x0a\x0a\x0b\x0c\x0d\x0d\x00\x0e\x18\x7f")[r.Intn(16)]})
	case 5:
		l := []string{"D", "E", "M", "M", "H", "H", "7", "8", "8", "#8", "D", "E", "M", "7", "8", "(8", " M", "#7", "Z", "#c"}
		if r.Intn(20) == 0 {
			return "\x1bc"
		}
		return "\x1b" + l[r.Intn(len(l))]
	case 6:
		l := []string{"6h", "6l", "7h", "7l", "25h", "25l", "1047h", "1047l", "1049h", "1049l", "6;7h", "25;7l", "7;1049h", "4h", "4l", "2J", "K", "5;10r", "s", "u", "h", "7 l", "7h", "7h", "6h", "1047l"}
		return "\x1b[?" + l[r.Intn(len(l))]
	case 7:
		l := []string{"4h", "4l", "4l", "4l", "5h", "4;5l", "5;4h", "m", "0m", "1m", "31m", "41m", "42m", "7;44m", "49m", "38;5;9m", "48;2;1;2;3m", "g", "0g", "3g", "1g", "s", "u", ">4h", "4 h", "!p", "<7l"}
		return "\x1b[" + l[r.Intn(len(l))]
	case 8:
		l := []string{"0;a title", "2;another", "2;", "1;none", "52;c;TWE=", "52;;", "52;p;TWFu", "52;c;?", "9;x", "0;" + strings.Repeat("\u20ac", 30), "52;c;" + strings.Repeat("TWFu", 85) + "TQ==", "52;c;" + strings.Repeat("TWFu", 86)}
		return "\x1b]" + l[r.Intn(len(l))] + []string{"\x07", "\x1b\\"}[r.Intn(2)]
	case 9:
		if r.Intn(3) > 0 {
			return "\x1b[" + few(r) + ";" + few(r) + "r"
		}
		return "\x1b[" + few(r) + ";" + few(r) + []string{"H", "f"}[r.Intn(2)]
	default:
		finals := "ABCDEFGdHfJKLM@PXSTJKr"
		return "\x1b[" + few(r) + string(finals[r.Intn(len(finals))])
	}
}

// P19.2, P19.4, P3: whatever a host says, and whenever the size changes, all is as the document words it.
func TestWorded(t *testing.T) {
	seen := map[string]int{}
	for seed := range 2000 {
		r := rand.New(rand.NewSource(int64(seed)))
		rows, cols := 1+r.Intn(5), 1+r.Intn(7)
		if seed%5 == 0 {
			rows, cols = 1+r.Intn(12), 1+r.Intn(40)
		}
		got, e := term.New(rows, cols)
		if e != api.OK {
			t.Fatal(e)
		}
		m := worded(rows, cols, seen)
		against(t, got, m, "a new one")
		var said []string
		for range 80 {
			what := say(r)
			if r.Intn(40) == 0 {
				rows, cols := r.Intn(14), r.Intn(9)+r.Intn(2)*r.Intn(34)
				what = "Resize(" + strconv.Itoa(rows) + ", " + strconv.Itoa(cols) + ")"
				e, want := got.Resize(rows, cols), m.resize(rows, cols)
				if e != want {
					t.Fatalf("%s: %v, want %v", what, e, want)
				}
				seen["Resize "+want.Error()]++
			} else {
				if e := got.Feed([]byte(what)); e != api.OK {
					t.Fatalf("Feed(%q): %v", what, e)
				}
				m.feed([]byte(what))
			}
			said = append(said, what)
			against(t, got, m, strconv.Itoa(seed)+": "+strconv.Quote(strings.Join(said, " ")))
			if row, col, _ := got.Cursor(); row < 0 || row >= m.rows || col < 0 || col >= m.cols || len(got.Title()) > 64 || len(m.clip) > 256 {
				t.Fatalf("%q: the cursor %d, %d; %q, %q", said, row, col, got.Title(), m.clip)
			}
		}
	}
	for _, name := range []string{"index at the bottom", "index below the region", "wrapped", "hangs without wraps", "inserted", "another csi", "title", "clip", "bell", "up at the top", "rows from the top on", "rows outside of the region",
		"region", "no region", "mode 6", "mode 7", "mode 25", "mode 1047", "mode 1049", "esc D", "esc E", "esc M", "esc H", "esc 7", "esc 8", "esc c", "esc #8", "Resize longline 0", "Resize longline 1",
		"csi A", "csi B", "csi C", "csi D", "csi E", "csi F", "csi G", "csi d", "csi H", "csi f", "csi J", "csi K", "csi L", "csi M", "csi @", "csi P", "csi X", "csi S", "csi T", "csi g", "csi h", "csi l", "csi m", "csi r", "csi s", "csi u"} {
		if seen[name] < 50 {
			t.Errorf("%s was met %d times", name, seen[name])
		}
	}
}

// P19.3: in whatever pieces what a host says comes, all is the same.
func TestPieces(t *testing.T) {
	for seed := range 300 {
		r := rand.New(rand.NewSource(int64(seed + 10000)))
		rows, cols := 1+r.Intn(6), 1+r.Intn(12)
		var b []byte
		for range 1 + r.Intn(60)*(1+20*(seed%2)) {
			b = append(b, say(r)...)
		}
		whole, _ := term.New(rows, cols)
		if e := whole.Feed(b); e != api.OK {
			t.Fatal(e)
		}
		for most := range 4 {
			m := worded(rows, cols, map[string]int{})
			got, _ := term.New(rows, cols)
			rest := slices.Clone(b)
			for len(rest) > 0 {
				n := min(len(rest), 1+r.Intn(1+most*most*most*80))
				if e := got.Feed(rest[:n]); e != api.OK {
					t.Fatal(e)
				}
				m.feed(rest[:n])
				rest = rest[n:]
				got.Feed(nil)
			}
			against(t, got, m, "pieces")
			against(t, whole, m, "as a whole")
		}
		// What comes behind is the same, too: what is not seen was the same.
		m := worded(rows, cols, map[string]int{})
		m.feed(b)
		for range 20 {
			what := []byte(say(r))
			whole.Feed(what)
			m.feed(what)
			against(t, whole, m, "behind it")
		}
	}
}
