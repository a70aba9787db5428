package style_test

import (
	"bytes"
	"math"
	"math/rand"
	"slices"
	"testing"

	"longline/api"
	"longline/style"
	"longline/vint"
)

const (
	table = 0x1000000
	mix   = 0x2000000
)

// setBy and unsetBy are the flags that a number sets and takes away, as the document lists them.
var (
	setBy = map[int]uint8{1: style.Bold, 2: style.Faint, 3: style.Italic, 4: style.Under, 5: style.Blink, 7: style.Reverse, 8: style.Hidden, 9: style.Strike}

	unsetBy = map[int]uint8{22: style.Bold + style.Faint, 23: style.Italic, 24: style.Under, 25: style.Blink, 27: style.Reverse, 28: style.Hidden, 29: style.Strike}
)

// isWorded tells whether a colour is some, as the document words it.
func isWorded(c uint32) bool {
	if c == 0 {
		return true
	}
	top, rest := c>>24, c&0xFFFFFF
	return top == 1 && rest <= 255 || top == 2
}

// worded is a style changed by numbers, the first one and those that belong to it ahead of all others.
func worded(s style.Style, l []int) style.Style {
	if len(l) == 0 {
		return s
	}
	n, rest := l[0], l[1:]
	if n == 38 || n == 48 {
		colour := &s.Fg
		if n == 48 {
			colour = &s.Bg
		}
		if len(rest) > 1 && rest[0] == 5 {
			if rest[1] >= 0 && rest[1] <= 255 {
				*colour = table + uint32(rest[1])
			}
			return worded(s, rest[2:])
		}
		if len(rest) > 3 && rest[0] == 2 {
			red, green, blue := rest[1], rest[2], rest[3]
			if min(red, green, blue) >= 0 && max(red, green, blue) <= 255 {
				*colour = mix + uint32(red*65536+green*256+blue)
			}
			return worded(s, rest[4:])
		}
		return s
	}
	return worded(wordedOne(s, n), rest)
}

func wordedOne(s style.Style, n int) style.Style {
	if n == 0 {
		return style.Style{}
	}
	s.Flags = s.Flags&^unsetBy[n] | setBy[n]
	for i := range 8 {
		switch n {
		case 30 + i:
			s.Fg = table + uint32(i)
		case 90 + i:
			s.Fg = table + 8 + uint32(i)
		case 40 + i:
			s.Bg = table + uint32(i)
		case 100 + i:
			s.Bg = table + 8 + uint32(i)
		}
	}
	switch n {
	case 39:
		s.Fg = 0
	case 49:
		s.Bg = 0
	}
	return s
}

// colours are such as may be, bads such as may not, each at its borders.
var (
	colours = []uint32{0, table, table + 1, table + 7, table + 8, table + 0x7F, table + 0xFE, table + 0xFF, mix, mix + 1, mix + 0xFF, mix + 0x100, mix + 0xFF00, mix + 0x123456, mix + 0xFF0000, mix + 0xFFFFFE, mix + 0xFFFFFF}

	bads = []uint32{1, 2, 0xFF, 0x100, 0xFFFFFF, table + 0x100, table + 0x101, table + 0xFFFFFF, 0x3000000, 0x3000001, 0x3FFFFFFF, 0x40000000, 0x7FFFFFFF, 0x80000000, 0x81000000, math.MaxUint32}
)

// some are styles that may be: all flags one by one and at once, with colours.
func some() []style.Style {
	var l []style.Style
	for _, flags := range []uint8{0, 1, 2, 4, 8, 16, 32, 64, 128, 3, 0x55, 0xAA, 0xFF} {
		for i, fg := range colours {
			l = append(l, style.Style{Flags: flags, Fg: fg, Bg: colours[(i*5+int(flags))%len(colours)]})
		}
	}
	return l
}

func wantChange(t *testing.T, s style.Style, l []int, want style.Style) {
	t.Helper()
	if got := style.Change(s, l); got != want {
		t.Fatalf("Change(%X, %v) = %X, want %X", s, l, got, want)
	}
}

// P16.1: which styles may be.
func TestRight(t *testing.T) {
	for _, c := range colours {
		for _, s := range []style.Style{{Fg: c}, {Bg: c}, {Flags: 255, Fg: c, Bg: c}, {Flags: 1, Fg: c, Bg: table + 3}, {Fg: mix + 9, Bg: c}} {
			if !style.Right(s) {
				t.Errorf("%X may not be", s)
			}
		}
	}
	for _, c := range bads {
		for _, s := range []style.Style{{Fg: c}, {Bg: c}, {Flags: 255, Fg: c, Bg: c}, {Flags: 1, Fg: c, Bg: table + 3}, {Fg: mix + 9, Bg: c}} {
			if style.Right(s) {
				t.Errorf("%X may be", s)
			}
		}
	}
	for flags := range 256 {
		if !style.Right(style.Style{Flags: uint8(flags)}) {
			t.Errorf("the flags %d may not be", flags)
		}
	}
	r := rand.New(rand.NewSource(16))
	for range 20000 {
		c := r.Uint32() >> r.Intn(32)
		if style.Right(style.Style{Fg: c}) != isWorded(c) || style.Right(style.Style{Bg: c}) != isWorded(c) {
			t.Fatalf("%X: %v", c, style.Right(style.Style{Fg: c}))
		}
	}
	if style.Bold != 1 || style.Faint != 2 || style.Italic != 4 || style.Under != 8 || style.Blink != 16 || style.Reverse != 32 || style.Hidden != 64 || style.Strike != 128 {
		t.Error("flags")
	}
}

// P16.1: what each number does, to each style.
func TestNumbers(t *testing.T) {
	full := style.Style{Flags: 255, Fg: table + 3, Bg: mix + 5}
	for _, x := range []struct {
		n              int
		empty, changed style.Style
	}{
		{0, style.Style{}, style.Style{}},
		{1, style.Style{Flags: 1}, full}, {2, style.Style{Flags: 2}, full}, {3, style.Style{Flags: 4}, full}, {4, style.Style{Flags: 8}, full}, {5, style.Style{Flags: 16}, full}, {6, style.Style{}, full},
		{7, style.Style{Flags: 32}, full}, {8, style.Style{Flags: 64}, full}, {9, style.Style{Flags: 128}, full}, {10, style.Style{}, full}, {20, style.Style{}, full}, {21, style.Style{}, full},
		{22, style.Style{}, style.Style{Flags: 252, Fg: table + 3, Bg: mix + 5}}, {23, style.Style{}, style.Style{Flags: 251, Fg: table + 3, Bg: mix + 5}}, {24, style.Style{}, style.Style{Flags: 247, Fg: table + 3, Bg: mix + 5}},
		{25, style.Style{}, style.Style{Flags: 239, Fg: table + 3, Bg: mix + 5}}, {26, style.Style{}, full}, {27, style.Style{}, style.Style{Flags: 223, Fg: table + 3, Bg: mix + 5}},
		{28, style.Style{}, style.Style{Flags: 191, Fg: table + 3, Bg: mix + 5}}, {29, style.Style{}, style.Style{Flags: 127, Fg: table + 3, Bg: mix + 5}},
		{30, style.Style{Fg: table}, style.Style{Flags: 255, Fg: table, Bg: mix + 5}}, {37, style.Style{Fg: table + 7}, style.Style{Flags: 255, Fg: table + 7, Bg: mix + 5}},
		{38, style.Style{}, full}, {39, style.Style{}, style.Style{Flags: 255, Bg: mix + 5}},
		{40, style.Style{Bg: table}, style.Style{Flags: 255, Fg: table + 3, Bg: table}}, {47, style.Style{Bg: table + 7}, style.Style{Flags: 255, Fg: table + 3, Bg: table + 7}},
		{48, style.Style{}, full}, {49, style.Style{}, style.Style{Flags: 255, Fg: table + 3}}, {50, style.Style{}, full}, {89, style.Style{}, full},
		{90, style.Style{Fg: table + 8}, style.Style{Flags: 255, Fg: table + 8, Bg: mix + 5}}, {97, style.Style{Fg: table + 15}, style.Style{Flags: 255, Fg: table + 15, Bg: mix + 5}}, {98, style.Style{}, full}, {99, style.Style{}, full},
		{100, style.Style{Bg: table + 8}, style.Style{Flags: 255, Fg: table + 3, Bg: table + 8}}, {107, style.Style{Bg: table + 15}, style.Style{Flags: 255, Fg: table + 3, Bg: table + 15}}, {108, style.Style{}, full},
		{9999, style.Style{}, full}, {-1, style.Style{}, full}, {-38, style.Style{}, full}, {256, style.Style{}, full}, {257, style.Style{}, full}, {math.MaxInt, style.Style{}, full}, {math.MinInt, style.Style{}, full},
	} {
		wantChange(t, style.Style{}, []int{x.n}, x.empty)
		wantChange(t, full, []int{x.n}, x.changed)
	}
	for n := -300; n < 700; n++ {
		for _, s := range some() {
			wantChange(t, s, []int{n}, worded(s, []int{n}))
		}
	}
}

// P16.1: no numbers at all are one of 0; the example; numbers one by one.
func TestChange(t *testing.T) {
	full := style.Style{Flags: 255, Fg: table + 3, Bg: mix + 5}
	wantChange(t, full, nil, style.Style{})
	wantChange(t, full, []int{}, style.Style{})
	wantChange(t, full, []int{1, 2, 3}[:0], style.Style{})
	wantChange(t, style.Style{}, []int{1, 31}, style.Style{Flags: style.Bold, Fg: 0x1000001})
	wantChange(t, full, []int{0, 1}, style.Style{Flags: 1})
	wantChange(t, full, []int{1, 0}, style.Style{})
	wantChange(t, style.Style{}, []int{1, 2, 22, 3}, style.Style{Flags: 4})
	wantChange(t, style.Style{}, []int{31, 32, 41, 107}, style.Style{Fg: table + 2, Bg: table + 15})
	wantChange(t, style.Style{}, []int{6, 1000, -7, 4}, style.Style{Flags: 8})
	// A style that may not be is changed as all others.
	wantChange(t, style.Style{Flags: 1, Fg: 7, Bg: 0x3000000}, []int{3}, style.Style{Flags: 5, Fg: 7, Bg: 0x3000000})
	wantChange(t, style.Style{Flags: 1, Fg: 7, Bg: 0x3000000}, []int{39}, style.Style{Flags: 1, Bg: 0x3000000})
	wantChange(t, style.Style{Flags: 1, Fg: 7, Bg: 0x3000000}, nil, style.Style{})
}

// P16.1: colours by more numbers than one, of the letters and behind them.
func TestColours(t *testing.T) {
	start := style.Style{Flags: 2, Fg: table + 1, Bg: table + 2}
	for _, x := range []struct {
		l      []int
		colour uint32
		flags  uint8
	}{
		{[]int{5, 0}, table, 2}, {[]int{5, 196}, table + 196, 2}, {[]int{5, 255}, table + 255, 2}, {[]int{5, 255, 1}, table + 255, 3}, {[]int{5, 1}, table + 1, 2}, {[]int{5, 5, 4}, table + 5, 10},
		{[]int{2, 0, 0, 0}, mix, 2}, {[]int{2, 255, 255, 255}, mix + 0xFFFFFF, 2}, {[]int{2, 1, 2, 3}, mix + 0x010203, 2}, {[]int{2, 0x12, 0x34, 0x56, 4}, mix + 0x123456, 10}, {[]int{2, 255, 0, 0}, mix + 0xFF0000, 2},
		// Too great: nothing is changed, and what belongs to it is passed over.
		{[]int{5, 256}, 0, 2}, {[]int{5, 256, 1}, 0, 3}, {[]int{5, 9999, 1}, 0, 3}, {[]int{5, math.MaxInt, 1}, 0, 3}, {[]int{5, 1 << 32, 1}, 0, 3}, {[]int{2, 256, 0, 0, 1}, 0, 3}, {[]int{2, 0, 256, 0, 1}, 0, 3}, {[]int{2, 0, 0, 256, 1}, 0, 3},
		{[]int{2, 1, 3, 9999, 4, 1}, 0, 11}, {[]int{2, 256, 3, 4}, 0, 2}, {[]int{2, 1 << 40, 3, 4, 1}, 0, 3},
		// Below 0 there is none in the table, nor in a mixture.
		{[]int{5, -1}, 0, 2}, {[]int{5, -1, 1}, 0, 3}, {[]int{5, math.MinInt, 1}, 0, 3}, {[]int{2, -1, 0, 0, 1}, 0, 3}, {[]int{2, 0, -1, 0, 1}, 0, 3}, {[]int{2, 0, 0, -1, 1}, 0, 3}, {[]int{2, math.MinInt, 0, 0, 1}, 0, 3},
		// Too few, or another one: all behind it is passed over.
		{nil, 0, 2}, {[]int{5}, 0, 2}, {[]int{2}, 0, 2}, {[]int{2, 1}, 0, 2}, {[]int{2, 1, 3}, 0, 2}, {[]int{2, 1, 1}, 0, 2}, {[]int{1}, 0, 2}, {[]int{1, 1, 1, 1, 1, 1}, 0, 2}, {[]int{0, 1}, 0, 2}, {[]int{0, 0, 0, 0, 0}, 0, 2},
		{[]int{3, 1, 1, 1, 1}, 0, 2}, {[]int{6, 5, 5}, 0, 2}, {[]int{-5, 5, 1, 1}, 0, 2}, {[]int{38, 5, 1}, 0, 2}, {[]int{4, 0}, 0, 2}, {[]int{9999, 0, 0, 0, 0}, 0, 2},
	} {
		fg, bg := start, start
		fg.Flags, bg.Flags = x.flags, x.flags
		if x.colour != 0 {
			fg.Fg, bg.Bg = x.colour, x.colour
		}
		wantChange(t, start, append([]int{38}, x.l...), fg)
		wantChange(t, start, append([]int{48}, x.l...), bg)
		wantChange(t, start, append([]int{9, 38}, x.l...), style.Style{Flags: fg.Flags | 128, Fg: fg.Fg, Bg: fg.Bg})
	}
	wantChange(t, style.Style{}, []int{38, 5, 7, 48, 2, 1, 2, 3, 1}, style.Style{Flags: 1, Fg: table + 7, Bg: mix + 0x010203})
	wantChange(t, style.Style{}, []int{48, 5, 48, 38, 5, 38}, style.Style{Fg: table + 38, Bg: table + 48})
	wantChange(t, style.Style{}, []int{38, 5, 256, 48, 5, 1, 38, 2, 1}, style.Style{Bg: table + 1})
	for n := range 300 {
		for _, to := range []int{38, 48} {
			for _, l := range [][]int{{to, 5, n, 1}, {to, 2, n, 7, 8, 1}, {to, 2, 7, n, 8, 1}, {to, 2, 7, 8, n, 1}, {to, n, 1, 1, 1, 1}, {to, n}, {n, to, 5, 9, n}} {
				wantChange(t, start, l, worded(start, l))
			}
		}
	}
}

// P16.1: all numbers one behind the other are as the document words it.
func TestMixed(t *testing.T) {
	r := rand.New(rand.NewSource(161))
	usual := []int{0, 1, 2, 3, 4, 5, 7, 22, 24, 30, 37, 38, 38, 38, 39, 40, 48, 48, 48, 49, 90, 97, 100, 107, 5, 5, 2, 2, 255, 256, 128, -1, 6, 9999}
	all := some()
	passed, coloured := 0, 0
	for range 60000 {
		l := make([]int, 1+r.Intn(12))
		for i := range l {
			l[i] = usual[r.Intn(len(usual))]
			if r.Intn(4) == 0 {
				l[i] = r.Intn(300) - 20
			}
		}
		s := all[r.Intn(len(all))]
		want := worded(s, l)
		wantChange(t, s, l, want)
		// A number behind them changes nothing alone where all is passed over.
		with := append(l[:len(l):len(l)], 0)
		wantChange(t, s, with, worded(s, with))
		if worded(s, with) != (style.Style{}) {
			passed++
		}
		if want.Fg >= mix || want.Bg >= mix {
			coloured++
		}
	}
	if passed < 5000 || coloured < 5000 {
		t.Errorf("passed over %d times, mixed colours %d times", passed, coloured)
	}
}

// P16.1: a style's numbers.
func TestParams(t *testing.T) {
	for _, x := range []struct {
		s    style.Style
		want []int
	}{
		{style.Style{}, []int{0}}, {style.Style{Flags: 1}, []int{0, 1}}, {style.Style{Flags: 2}, []int{0, 2}}, {style.Style{Flags: 4}, []int{0, 3}}, {style.Style{Flags: 8}, []int{0, 4}},
		{style.Style{Flags: 16}, []int{0, 5}}, {style.Style{Flags: 32}, []int{0, 7}}, {style.Style{Flags: 64}, []int{0, 8}}, {style.Style{Flags: 128}, []int{0, 9}}, {style.Style{Flags: 255}, []int{0, 1, 2, 3, 4, 5, 7, 8, 9}},
		{style.Style{Fg: table}, []int{0, 38, 5, 0}}, {style.Style{Fg: table + 255}, []int{0, 38, 5, 255}}, {style.Style{Fg: mix}, []int{0, 38, 2, 0, 0, 0}}, {style.Style{Fg: mix + 0x123456}, []int{0, 38, 2, 0x12, 0x34, 0x56}},
		{style.Style{Fg: mix + 0xFFFFFF}, []int{0, 38, 2, 255, 255, 255}}, {style.Style{Bg: table}, []int{0, 48, 5, 0}}, {style.Style{Bg: table + 8}, []int{0, 48, 5, 8}}, {style.Style{Bg: mix + 0x010200}, []int{0, 48, 2, 1, 2, 0}},
		{style.Style{Flags: 129, Fg: table + 1, Bg: mix + 3}, []int{0, 1, 9, 38, 5, 1, 48, 2, 0, 0, 3}}, {style.Style{Flags: 66, Fg: mix + 256, Bg: table + 4}, []int{0, 2, 8, 38, 2, 0, 1, 0, 48, 5, 4}},
	} {
		if got := style.Params(x.s); !slices.Equal(got, x.want) {
			t.Errorf("Params(%X) = %v, want %v", x.s, got, x.want)
		}
	}
	for _, c := range bads {
		for _, s := range []style.Style{{Flags: 1, Fg: c}, {Bg: c}, {Fg: c, Bg: table}, {Fg: mix, Bg: c}} {
			if got := style.Params(s); len(got) != 0 {
				t.Errorf("Params(%X) = %v", s, got)
			}
		}
	}
}

// P16.3: a style's numbers change any style into it.
func TestInto(t *testing.T) {
	all := some()
	wrong := []style.Style{{Flags: 255, Fg: 5, Bg: math.MaxUint32}, {Fg: 0x3000000}}
	for flags := range 256 {
		all = append(all, style.Style{Flags: uint8(flags), Fg: table + uint32(flags)})
	}
	for i, s := range all {
		l := style.Params(s)
		for j := range 8 {
			wantChange(t, all[(i*7+j*31)%len(all)], l, s)
		}
		for _, bad := range wrong {
			wantChange(t, bad, l, s)
		}
		// Numbers in front of them do nothing any more, if they take nothing of what is behind.
		wantChange(t, style.Style{}, append([]int{1, 31, 48, 5, 9}, l...), s)
	}
}

// P16.4: 0 makes all usual, whatever there was.
func TestZero(t *testing.T) {
	for _, s := range append(some(), style.Style{Flags: 255, Fg: math.MaxUint32, Bg: 1}) {
		wantChange(t, s, []int{0}, style.Style{})
		wantChange(t, s, []int{7, 38, 5, 1, 0}, style.Style{})
		wantChange(t, s, []int{0, 3}, style.Style{Flags: style.Italic})
	}
}

// P16.2: bytes of styles.
func TestWrite(t *testing.T) {
	for _, x := range []struct {
		s    style.Style
		want []byte
	}{
		{style.Style{}, []byte{0, 0, 0}}, {style.Style{Flags: 255}, []byte{255, 0, 0}}, {style.Style{Flags: 1, Fg: table + 1}, []byte{1, 0x81, 0, 0, 1, 0}}, {style.Style{Bg: table + 255}, []byte{0, 0, 0x81, 0, 0, 255}},
		{style.Style{Flags: 64, Fg: mix + 0x123456, Bg: mix + 0xFFFFFF}, []byte{64, 0x82, 0x12, 0x34, 0x56, 0x82, 255, 255, 255}}, {style.Style{Fg: table, Bg: mix}, []byte{0, 0x81, 0, 0, 0, 0x82, 0, 0, 0}},
	} {
		if got, e := style.Write(x.s); e != api.OK || !bytes.Equal(got, x.want) {
			t.Errorf("Write(%X) = % X, %v, want % X", x.s, got, e, x.want)
		}
	}
	for _, c := range bads {
		for _, s := range []style.Style{{Flags: 1, Fg: c}, {Bg: c}, {Fg: c, Bg: table}, {Fg: mix, Bg: c}} {
			if got, e := style.Write(s); e != api.ErrForm || len(got) != 0 {
				t.Errorf("Write(%X) = % X, %v", s, got, e)
			}
		}
	}
}

// P16.3 and P2: styles go there and back, wherever they stand.
func TestThereAndBack(t *testing.T) {
	for i, s := range some() {
		b, e := style.Write(s)
		if e != api.OK {
			t.Fatalf("Write(%X): %v", s, e)
		}
		ahead := bytes.Repeat([]byte{0xC1}, i%5)
		all := append(append(bytes.Clone(ahead), b...), 0x7F)
		if got, next, e := style.Read(all, len(ahead)); e != api.OK || got != s || next != len(ahead)+len(b) {
			t.Fatalf("Read(% X, %d) = %X, %d, %v, want %X", all, len(ahead), got, next, e, s)
		}
		if got, next, e := style.Read(b, 0); e != api.OK || got != s || next != len(b) {
			t.Fatalf("Read(% X) = %X, %d, %v, want %X", b, got, next, e, s)
		}
		for n := range b {
			if got, next, e := style.Read(b[:n:len(b)], 0); e != api.ErrShort || got != (style.Style{}) || next != 0 {
				t.Fatalf("Read(% X) = %X, %d, %v", b[:n], got, next, e)
			}
		}
	}
}

func wantError(t *testing.T, b []byte, at int, want api.Errno) {
	t.Helper()
	if s, next, e := style.Read(b, at); e != want || s != (style.Style{}) || next != 0 {
		t.Errorf("Read(% X, %d) = %X, %d, %v, want %v", b, at, s, next, e, want)
	}
}

// P16.2: what is no style's bytes, and which error comes first.
func TestReadErrors(t *testing.T) {
	whole := []byte{1, 0, 0}
	for _, at := range []int{-1, -2, 4, 5, math.MinInt, math.MaxInt} {
		wantError(t, whole, at, api.ErrArg)
	}
	wantError(t, nil, -1, api.ErrArg)
	wantError(t, nil, 1, api.ErrArg)
	wantError(t, nil, 0, api.ErrShort)
	wantError(t, []byte{}, 0, api.ErrShort)
	wantError(t, whole, 3, api.ErrShort)
	wantError(t, whole, 2, api.ErrShort)
	wantError(t, whole, 1, api.ErrShort)
	for _, x := range []struct {
		b    []byte
		want api.Errno
	}{
		{[]byte{7}, api.ErrShort}, {[]byte{7, 0}, api.ErrShort}, {[]byte{7, 0x81, 0, 0}, api.ErrShort}, {[]byte{7, 0, 0x81, 0, 0}, api.ErrShort}, {[]byte{7, 0xC0}, api.ErrShort}, {[]byte{7, 0, 0xC0}, api.ErrShort},
		// Fewer bytes would do.
		{[]byte{7, 0x40, 0, 0}, api.ErrForm}, {[]byte{7, 0, 0x40, 0}, api.ErrForm}, {[]byte{7, 0x80, 0, 0, 0, 0}, api.ErrForm}, {[]byte{7, 0xC0, 0, 0, 0, 1, 0, 0, 1, 0}, api.ErrForm}, {[]byte{7, 0, 0x80, 0, 0, 0}, api.ErrForm},
		// Both numbers' errors come ahead of a colour that is none, and the first one's ahead of the second one's.
		{[]byte{7, 1}, api.ErrShort}, {[]byte{7, 1, 0x81}, api.ErrShort}, {[]byte{7, 0x40, 0}, api.ErrForm}, {[]byte{7, 0x40, 0, 0x81}, api.ErrForm}, {[]byte{7, 0x81, 0x40, 0}, api.ErrShort},
		// Colours that are none.
		{[]byte{7, 1, 0}, api.ErrForm}, {[]byte{7, 0, 1}, api.ErrForm}, {[]byte{7, 1, 1}, api.ErrForm}, {[]byte{7, 0x81, 0, 1, 0, 0}, api.ErrForm}, {[]byte{7, 0, 0x83, 0, 0, 0}, api.ErrForm},
	} {
		wantError(t, x.b, 0, x.want)
		wantError(t, append([]byte{9, 9}, x.b...), 2, x.want)
	}
	// Greater numbers than a style has room for are not cut.
	for _, c := range []uint64{1 << 32, 1<<32 + table, 1<<33 + table + 1, 1<<40 + mix, 5<<32 + mix + 77, api.MaxVint, uint64(bads[3]), math.MaxUint32} {
		n, e := vint.Put(c)
		if e != api.OK {
			t.Fatalf("Put(%X): %v", c, e)
		}
		wantError(t, append(append([]byte{0}, n...), 0), 0, api.ErrForm)
		wantError(t, append([]byte{0, 0}, n...), 0, api.ErrForm)
	}
}

// P16.2: of all bytes, what is read is what is written.
func TestReadAny(t *testing.T) {
	r := rand.New(rand.NewSource(162))
	seen := map[api.Errno]int{}
	for range 100000 {
		b := make([]byte, r.Intn(12))
		for i := range b {
			b[i] = []byte{0, 0, 0x81, 0x82, 1, 0x40, byte(r.Intn(256))}[r.Intn(7)]
		}
		at := r.Intn(3)
		s, next, e := style.Read(b, at)
		seen[e]++
		if e != api.OK {
			if s != (style.Style{}) || next != 0 {
				t.Fatalf("Read(% X, %d) = %X, %d, %v", b, at, s, next, e)
			}
			continue
		}
		if again, e := style.Write(s); e != api.OK || !style.Right(s) || !bytes.Equal(again, b[at:next]) {
			t.Fatalf("Read(% X, %d) = %X, %d; written it is % X, %v", b, at, s, next, again, e)
		}
	}
	for _, e := range []api.Errno{api.OK, api.ErrArg, api.ErrShort, api.ErrForm} {
		if seen[e] < 1000 {
			t.Errorf("%v: %d times alone", e, seen[e])
		}
	}
}

// Rules 4 and 5: what is handed in is neither changed nor read behind its length, and what is handed out is new.
func TestMemory(t *testing.T) {
	held := []int{38, 5, 9, 1, 38, 5, 7}
	wantChange(t, style.Style{Fg: table + 2}, held[:2], style.Style{Fg: table + 2})
	wantChange(t, style.Style{}, held[:3], style.Style{Fg: table + 9})
	wantChange(t, style.Style{}, held[:6], style.Style{Flags: 1, Fg: table + 9})
	if !slices.Equal(held, []int{38, 5, 9, 1, 38, 5, 7}) {
		t.Errorf("what was handed in was changed: %v", held)
	}
	s := style.Style{Flags: 255, Fg: table + 1, Bg: mix + 2}
	one, other := style.Params(s), style.Params(s)
	clear(one[:cap(one)])
	if !slices.Equal(other, []int{0, 1, 2, 3, 4, 5, 7, 8, 9, 38, 5, 1, 48, 2, 0, 0, 2}) || !slices.Equal(style.Params(s), other) {
		t.Errorf("numbers share memory: %v", other)
	}
	a, _ := style.Write(s)
	b, _ := style.Write(s)
	clear(a[:cap(a)])
	if want := []byte{255, 0x81, 0, 0, 1, 0x82, 0, 0, 2}; !bytes.Equal(b, want) {
		t.Errorf("bytes share memory: % X", b)
	}
	saved := bytes.Clone(b)
	if got, _, e := style.Read(b, 0); e != api.OK || got != s || !bytes.Equal(b, saved) {
		t.Errorf("Read changed what was handed in: % X", b)
	}
}
