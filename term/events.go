package term

import (
	"longline/ansi"
	"longline/api"
	"longline/grid"
	"longline/osc"
	"longline/style"
)

// Controls that do something.
const (
	bell    = 0x07
	toLeft  = 0x08
	toTab   = 0x09
	newLine = 0x0A
	lineTab = 0x0B
	newPage = 0x0C
	toFirst = 0x0D
)

// Numbers of modes. Of the last two, the host may take either.
const (
	insertMode   = 4
	originMode   = 6
	wrapMode     = 7
	visibleMode  = 25
	otherMode    = 1047
	otherModeToo = 1049
)

// take is what comes of an event.
func (t *Term) take(event ansi.Event) {
	switch event.Kind {
	case ansi.Print:
		t.put(event.Point)
	case ansi.Control:
		t.control(event.Point)
	case ansi.Esc:
		t.escape(event.Inter, event.Final)
	case ansi.Csi:
		t.sequence(event)
	case ansi.Osc:
		t.ask(event.Text)
	}
}

// erased is an erased cell.
func (t *Term) erased() grid.Cell {
	c := grid.Blank()
	c.Style.Bg = t.style.Bg
	return c
}

// move puts the cursor to a place, or to the one of the screen that is nearest. It hangs no more, even if it was there.
func (t *Term) move(row, col int) {
	screen := t.screen()
	t.row = min(max(row, 0), screen.Rows()-1)
	t.col = min(max(col, 0), screen.Cols()-1)
	t.hangs = false
}

// home puts the cursor to where rows are counted from.
func (t *Term) home() { t.move(t.counted(1), 0) }

// counted is the row that has a number, counted from 1 on.
func (t *Term) counted(n int) int {
	if t.origin {
		return min(t.top+n-1, t.bottom)
	}
	return n - 1
}

// index goes down, or moves the region up.
func (t *Term) index() {
	row := t.row + 1
	if t.row == t.bottom {
		t.screen().Up(t.top, t.bottom, 1, t.erased())
		row = t.row
	}
	t.move(row, t.col)
}

// indexBack goes up, or moves the region down.
func (t *Term) indexBack() {
	row := t.row - 1
	if t.row == t.top {
		t.screen().Down(t.top, t.bottom, 1, t.erased())
		row = t.row
	}
	t.move(row, t.col)
}

// put shows a point.
func (t *Term) put(point int32) {
	if t.hangs && t.wraps {
		t.move(t.row, 0)
		t.index()
	}
	screen := t.screen()
	if t.inserts {
		screen.Insert(t.row, t.col, 1, t.erased())
	}
	screen.Put(t.row, t.col, grid.Cell{Point: point, Style: t.style})
	if t.wraps && t.col == screen.Cols()-1 {
		t.hangs = true
		return
	}
	t.move(t.row, t.col+1)
}

// control does what a control asks for.
func (t *Term) control(point int32) {
	switch point {
	case bell:
		t.bells++
	case toLeft:
		t.move(t.row, t.col-1)
	case toTab:
		t.move(t.row, t.nextTab())
	case newLine, lineTab, newPage:
		t.index()
	case toFirst:
		t.move(t.row, 0)
	}
}

// nextTab is the column of the next tab stop, which may be none of the screen, or the last column.
func (t *Term) nextTab() int {
	next := t.screen().Cols() - 1
stops:
	for col := t.col + 1; col < len(t.tabs); col++ {
		if t.tabs[col] {
			next = col
			break stops
		}
	}
	return next
}

// escape does what a short sequence asks for.
func (t *Term) escape(inter, final byte) {
	if inter != 0 {
		if inter == '#' && final == '8' {
			t.test()
		}
		return
	}
	switch final {
	case 'D':
		t.index()
	case 'E':
		t.move(t.row, 0)
		t.index()
	case 'M':
		t.indexBack()
	case 'H':
		t.tabs[t.col] = true
	case '7':
		t.save()
	case '8':
		t.restore()
	case 'c':
		t.restart()
	}
}

// test fills the screen with cells that show how it is set up.
func (t *Term) test() {
	fill(t.screen(), grid.Cell{Point: 'E'})
	t.top, t.bottom = 0, t.screen().Rows()-1
	t.move(0, 0)
}

// fill changes all cells of a screen.
func fill(screen *grid.Grid, c grid.Cell) {
	for row := range screen.Rows() {
		screen.Fill(row, 0, screen.Cols(), c)
	}
}

func (t *Term) save() { t.saved = t.spot }

// restore comes back to what is saved, which may be where a screen that was greater had its place.
func (t *Term) restore() {
	t.spot = t.saved
	t.move(t.row, t.col)
}

// restart makes all as at first, but what was asked for of others than the screen.
func (t *Term) restart() {
	for _, screen := range t.screens {
		fill(screen, grid.Blank())
	}
	t.setting = atFirst(t.screen().Rows())
}

// ask does what a text of the system asks for.
func (t *Term) ask(text string) {
	// What asks for nothing, or wrongly, has no kind.
	asked, _ := osc.Read(text)
	switch asked.Kind {
	case osc.Title:
		t.title = asked.Data
	case osc.Clip:
		t.clip = asked.Data
		t.clips++
	}
}

// sequence does what a control sequence asks for.
func (t *Term) sequence(event ansi.Event) {
	switch {
	case event.Inter != 0:
	case event.Private == 0:
		t.plain(event.Final, event.Params)
	case event.Private == '?' && (event.Final == 'h' || event.Final == 'l'):
		for _, n := range event.Params {
			t.setMode(n, event.Final == 'h')
		}
	}
}

// plain does what a control sequence asks for that has but numbers.
func (t *Term) plain(final byte, params []int) {
	number := func(at, missing int) int {
		if at >= len(params) || params[at] == 0 {
			return missing
		}
		return params[at]
	}
	switch final {
	case 'A', 'B', 'C', 'D', 'E', 'F', 'G', 'd', 'H', 'f':
		t.goTo(final, number(0, 1), number(1, 1))
	case 'J', 'K':
		t.erase(final, number(0, 0))
	case 'L', 'M', '@', 'P', 'X', 'S', 'T':
		t.shift(final, number(0, 1))
	case 'g':
		t.dropTabs(number(0, 0))
	case 'h', 'l':
		if number(0, 0) == insertMode {
			t.inserts = final == 'h'
		}
	case 'm':
		t.style = style.Change(t.style, params)
	case 'r':
		t.bound(number(0, 1)-1, number(1, t.screen().Rows())-1)
	case 's':
		t.save()
	case 'u':
		t.restore()
	}
}

// goTo moves the cursor by a sequence's numbers.
func (t *Term) goTo(final byte, n, second int) {
	switch final {
	case 'A':
		t.move(t.above(n), t.col)
	case 'B':
		t.move(t.below(n), t.col)
	case 'C':
		t.move(t.row, t.col+n)
	case 'D':
		t.move(t.row, t.col-n)
	case 'E':
		t.move(t.below(n), 0)
	case 'F':
		t.move(t.above(n), 0)
	case 'G':
		t.move(t.row, n-1)
	case 'd':
		t.move(t.counted(n), t.col)
	case 'H', 'f':
		t.move(t.counted(n), second-1)
	}
}

// above is the row n up; the top stops who comes from below.
func (t *Term) above(n int) int {
	if t.row < t.top {
		return t.row - n
	}
	return max(t.row-n, t.top)
}

// below is the row n down; the bottom stops who comes from above.
func (t *Term) below(n int) int {
	if t.row > t.bottom {
		return t.row + n
	}
	return min(t.row+n, t.bottom)
}

// erase erases what is behind the cursor, what is ahead, or both, in its row or on the whole screen.
func (t *Term) erase(final byte, which int) {
	screen := t.screen()
	firstRow, lastRow := 0, screen.Rows()-1
	from, to := 0, screen.Cols()
	switch which {
	case 0:
		firstRow, from = t.row, t.col
	case 1:
		lastRow, to = t.row, t.col+1
	case 2:
	default:
		return
	}
	screen.Fill(t.row, from, to, t.erased())
	if final == 'K' {
		return
	}
	for row := firstRow; row <= lastRow; row++ {
		if row != t.row {
			screen.Fill(row, 0, screen.Cols(), t.erased())
		}
	}
}

// shift moves rows, or a row's cells, or erases some of these.
func (t *Term) shift(final byte, n int) {
	screen, c := t.screen(), t.erased()
	switch final {
	case 'L', 'M':
		t.shiftHere(final, n)
	case '@':
		screen.Insert(t.row, t.col, n, c)
	case 'P':
		screen.Delete(t.row, t.col, n, c)
	case 'X':
		screen.Fill(t.row, t.col, t.col+n, c)
	case 'S':
		screen.Up(t.top, t.bottom, n, c)
	case 'T':
		screen.Down(t.top, t.bottom, n, c)
	}
}

// shiftHere moves the region's rows from the cursor on.
func (t *Term) shiftHere(final byte, n int) {
	if t.row < t.top || t.row > t.bottom {
		return
	}
	if final == 'L' {
		t.screen().Down(t.row, t.bottom, n, t.erased())
	} else {
		t.screen().Up(t.row, t.bottom, n, t.erased())
	}
	t.move(t.row, 0)
}

// dropTabs drops the tab stop here, or all of them.
func (t *Term) dropTabs(which int) {
	switch which {
	case 0:
		t.tabs[t.col] = false
	case 3:
		t.tabs = [api.MaxCols]bool{}
	}
}

// bound changes the region, if it may be.
func (t *Term) bound(top, bottom int) {
	if top >= bottom || bottom >= t.screen().Rows() {
		return
	}
	t.top, t.bottom = top, bottom
	t.home()
}

// setMode switches a mode of the terminal's own.
func (t *Term) setMode(number int, on bool) {
	switch number {
	case originMode:
		t.origin = on
		t.home()
	case wrapMode:
		t.wraps = on
	case visibleMode:
		t.visible = on
	case otherMode, otherModeToo:
		t.showOther(on)
	}
}

// showOther shows the other screen, which is empty whenever it comes, or the first one.
func (t *Term) showOther(on bool) {
	switch {
	case !on:
		t.shown = firstScreen
	case t.shown != otherScreen:
		t.shown = otherScreen
		fill(t.screen(), t.erased())
	}
}
