package utf_test

import (
	"bytes"
	"math"
	"math/rand"
	"slices"
	"testing"
	"unicode/utf8"

	"longline/api"
	"longline/utf"
)

// tail is a beginning's bytes that follow: the first one is from low to high, the others are from 80 to BF.
type tail struct {
	count     int
	low, high byte
}

// tailOf is of a byte as the document words it; none follows what is no beginning.
func tailOf(c byte) tail {
	switch {
	case c >= 0xC2 && c <= 0xDF:
		return tail{1, 0x80, 0xBF}
	case c == 0xE0:
		return tail{2, 0xA0, 0xBF}
	case c == 0xED:
		return tail{2, 0x80, 0x9F}
	case c >= 0xE1 && c <= 0xEF:
		return tail{2, 0x80, 0xBF}
	case c == 0xF0:
		return tail{3, 0x90, 0xBF}
	case c == 0xF4:
		return tail{3, 0x80, 0x8F}
	case c >= 0xF1 && c <= 0xF3:
		return tail{3, 0x80, 0xBF}
	}
	return tail{}
}

// worded is what bytes are read as, and how many wait at their end, as the document words it: all bytes are looked at as one text.
func worded(b []byte) (points []int32, waits int) {
	for len(b) > 0 {
		follow := tailOf(b[0])
		if follow.count == 0 {
			p := int32(utf.Bad)
			if b[0] < 0x80 {
				p = int32(b[0])
			}
			points, b = append(points, p), b[1:]
			continue
		}
		n := 1
		for n < len(b) && n <= follow.count {
			low, high := byte(0x80), byte(0xBF)
			if n == 1 {
				low, high = follow.low, follow.high
			}
			if b[n] < low || b[n] > high {
				break
			}
			n++
		}
		switch {
		case n > follow.count:
			p, _ := utf8.DecodeRune(b[:n])
			points = append(points, p)
		case n == len(b):
			return points, n
		default:
			points = append(points, utf.Bad)
		}
		b = b[n:]
	}
	return points, 0
}

// whole is what Points must answer: a beginning at the end is Bad.
func whole(b []byte) []int32 {
	points, waits := worded(b)
	if waits > 0 {
		points = append(points, utf.Bad)
	}
	return points
}

func wantPoints(t *testing.T, b []byte, want []int32) {
	t.Helper()
	if got := utf.Points(b); !slices.Equal(got, want) {
		t.Fatalf("Points(% X) = %X, want %X", b, got, want)
	}
}

func mustRead(t *testing.T, r *utf.Reader, b []byte) []int32 {
	t.Helper()
	l, e := r.Read(b)
	if e != api.OK {
		t.Fatalf("Read(% X): %v", b, e)
	}
	return l
}

func mustEnd(t *testing.T, r *utf.Reader) []int32 {
	t.Helper()
	l, e := r.End()
	if e != api.OK {
		t.Fatalf("End: %v", e)
	}
	if n := r.Waits(); n != 0 {
		t.Fatalf("behind End %d bytes wait", n)
	}
	return l
}

// borders are bytes about each of the document's borders.
var borders = []byte{0x00, 0x01, 'A', 0x7F, 0x80, 0x81, 0x8F, 0x90, 0x91, 0x9F, 0xA0, 0xA1, 0xBE, 0xBF, 0xC0, 0xC1, 0xC2, 0xC3, 0xDE, 0xDF,
	0xE0, 0xE1, 0xEC, 0xED, 0xEE, 0xEF, 0xF0, 0xF1, 0xF3, 0xF4, 0xF5, 0xF8, 0xFE, 0xFF}

// P13.1: which numbers are points.
func TestIs(t *testing.T) {
	for _, x := range []struct {
		p    int32
		want bool
	}{
		{0, true}, {1, true}, {0x7F, true}, {0x80, true}, {0x7FF, true}, {0x800, true}, {0xD7FF, true}, {0xD800, false}, {0xD801, false}, {0xDBFF, false}, {0xDC00, false},
		{0xDFFE, false}, {0xDFFF, false}, {0xE000, true}, {utf.Bad, true}, {0xFFFE, true}, {0xFFFF, true}, {0x10000, true}, {0x10FFFE, true}, {0x10FFFF, true},
		{0x110000, false}, {0x110001, false}, {math.MaxInt32, false}, {-1, false}, {-2, false}, {math.MinInt32, false}, {math.MinInt32 + 65, false},
	} {
		if got := utf.Is(x.p); got != x.want {
			t.Errorf("Is(%X) = %v", x.p, got)
		}
	}
	for p := int32(-70000); p < 0x120000; p++ {
		if utf.Is(p) != utf8.ValidRune(p) {
			t.Fatalf("Is(%X) = %v", p, utf.Is(p))
		}
	}
}

// P13.1: bytes of points, each count of them, and of what is none those of Bad.
func TestBytes(t *testing.T) {
	bad := []byte{0xEF, 0xBF, 0xBD}
	for _, x := range []struct {
		p    int32
		want []byte
	}{
		{0, []byte{0}}, {'A', []byte{'A'}}, {0x7F, []byte{0x7F}}, {0x80, []byte{0xC2, 0x80}}, {0xE4, []byte{0xC3, 0xA4}}, {0x7FF, []byte{0xDF, 0xBF}},
		{0x800, []byte{0xE0, 0xA0, 0x80}}, {0xD7FF, []byte{0xED, 0x9F, 0xBF}}, {0xE000, []byte{0xEE, 0x80, 0x80}}, {0xFFFF, []byte{0xEF, 0xBF, 0xBF}},
		{0x10000, []byte{0xF0, 0x90, 0x80, 0x80}}, {0x1F600, []byte{0xF0, 0x9F, 0x98, 0x80}}, {0x10FFFF, []byte{0xF4, 0x8F, 0xBF, 0xBF}},
		{utf.Bad, bad}, {-1, bad}, {math.MinInt32, bad}, {0xD800, bad}, {0xDFFF, bad}, {0x110000, bad}, {math.MaxInt32, bad},
	} {
		if got := utf.Bytes([]int32{x.p}); !bytes.Equal(got, x.want) {
			t.Errorf("Bytes(%X) = % X, want % X", x.p, got, x.want)
		}
	}
	if got := utf.Bytes([]int32{'a', 0xE4, -5, 0x20AC, 0x1F600, 0xD900, 'z'}); string(got) != "a\u00e4\ufffd\u20ac\U0001f600\ufffdz" {
		t.Errorf("Bytes of many: % X", got)
	}
	if got := utf.Bytes(nil); len(got) != 0 {
		t.Errorf("Bytes of none: % X", got)
	}
}

// The document's examples, and those that its words name.
func TestExamples(t *testing.T) {
	for _, x := range []struct {
		b    []byte
		want []int32
	}{
		{nil, nil}, {[]byte{}, nil}, {[]byte{0xC3, 0xA4}, []int32{0xE4}}, {[]byte{0xC3, 0x41}, []int32{utf.Bad, 0x41}},
		{[]byte{0x80}, []int32{utf.Bad}}, {[]byte{0xBF, 0xBF}, []int32{utf.Bad, utf.Bad}}, {[]byte{0xC0, 0x80}, []int32{utf.Bad, utf.Bad}}, {[]byte{0xC1, 0xBF}, []int32{utf.Bad, utf.Bad}},
		{[]byte{0xF5, 0x80}, []int32{utf.Bad, utf.Bad}}, {[]byte{0xFF}, []int32{utf.Bad}},
		// As far as they may: one Bad for a beginning and those that follow it.
		{[]byte{0xE2, 0x82, 0x41}, []int32{utf.Bad, 0x41}}, {[]byte{0xF0, 0x9F, 0x98, 0x41}, []int32{utf.Bad, 0x41}}, {[]byte{0xF0, 0x9F, 0x41}, []int32{utf.Bad, 0x41}},
		// The byte that may not follow is read anew: a beginning, and one that is none.
		{[]byte{0xC3, 0xC3, 0xA4}, []int32{utf.Bad, 0xE4}}, {[]byte{0xE2, 0x82, 0xE2, 0x82, 0xAC}, []int32{utf.Bad, 0x20AC}},
		{[]byte{0xE0, 0x9F, 0xBF}, []int32{utf.Bad, utf.Bad, utf.Bad}}, {[]byte{0xED, 0xA0, 0x80}, []int32{utf.Bad, utf.Bad, utf.Bad}},
		{[]byte{0xF0, 0x8F, 0xBF, 0xBF}, []int32{utf.Bad, utf.Bad, utf.Bad, utf.Bad}}, {[]byte{0xF4, 0x90, 0x80, 0x80}, []int32{utf.Bad, utf.Bad, utf.Bad, utf.Bad}},
		{[]byte{0xC3, 0xFF, 0x41}, []int32{utf.Bad, utf.Bad, 0x41}},
		// A point of all its bytes, and one byte too many.
		{[]byte{0xE2, 0x82, 0xAC, 0xAC}, []int32{0x20AC, utf.Bad}}, {[]byte{0xEF, 0xBF, 0xBD}, []int32{utf.Bad}}, {[]byte{0xF4, 0x8F, 0xBF, 0xBF}, []int32{0x10FFFF}},
		// A beginning at the end is one Bad.
		{[]byte{'A', 0xC3}, []int32{'A', utf.Bad}}, {[]byte{0xE2, 0x82}, []int32{utf.Bad}}, {[]byte{0xF0, 0x9F, 0x98}, []int32{utf.Bad}}, {[]byte{0xC3, 0xE2}, []int32{utf.Bad, utf.Bad}},
	} {
		wantPoints(t, x.b, x.want)
	}
}

// P13.1: every byte behind every beginning.
func TestPairs(t *testing.T) {
	for a := range 256 {
		wantPoints(t, []byte{byte(a)}, whole([]byte{byte(a)}))
		for b := range 256 {
			two := []byte{byte(a), byte(b)}
			wantPoints(t, two, whole(two))
			for _, c := range borders {
				wantPoints(t, append(two[:2:2], c), whole(append(two[:2:2], c)))
			}
		}
	}
}

// P13.1 and P13.2: all texts of four bytes at the borders, whole and byte by byte.
func TestBorders(t *testing.T) {
	for _, a := range borders {
		for _, b := range borders {
			for _, c := range borders {
				for _, d := range borders {
					four := []byte{a, b, c, d}
					want := whole(four)
					wantPoints(t, four, want)
					if got := readOnes(t, four); !slices.Equal(got, want) {
						t.Fatalf("byte by byte % X is %X, want %X", four, got, want)
					}
				}
			}
		}
	}
}

// readOnes reads byte by byte, and holds each step against the document's words.
func readOnes(t *testing.T, b []byte) []int32 {
	t.Helper()
	r := utf.New()
	var all []int32
	for i := range b {
		all = append(all, mustRead(t, r, b[i:i+1])...)
		points, waits := worded(b[:i+1])
		if !slices.Equal(all, points) || r.Waits() != waits {
			t.Fatalf("% X is read as %X, %d wait, want %X, %d", b[:i+1], all, r.Waits(), points, waits)
		}
	}
	return append(all, mustEnd(t, r)...)
}

// P13.2: what may go on waits, till what follows comes, or End.
func TestWaits(t *testing.T) {
	r := utf.New()
	for _, x := range []struct {
		b     []byte
		want  []int32
		waits int
	}{
		{nil, nil, 0}, {[]byte("ab"), []int32{'a', 'b'}, 0}, {[]byte{0xC3}, nil, 1}, {nil, nil, 1}, {[]byte{0xA4}, []int32{0xE4}, 0},
		{[]byte{'x', 0xE2}, []int32{'x'}, 1}, {[]byte{0x82}, nil, 2}, {[]byte{0xAC, 'y'}, []int32{0x20AC, 'y'}, 0},
		{[]byte{0xF0}, nil, 1}, {[]byte{0x9F}, nil, 2}, {[]byte{0x98}, nil, 3}, {[]byte{}, nil, 3}, {[]byte{0x80, 0xC3}, []int32{0x1F600}, 1},
		{[]byte{0xC3}, []int32{utf.Bad}, 1}, {[]byte{0xF0, 0x9F, 0x98}, []int32{utf.Bad}, 3}, {[]byte("q"), []int32{utf.Bad, 'q'}, 0},
		{[]byte{0xE0}, nil, 1}, {[]byte{0x9F}, []int32{utf.Bad, utf.Bad}, 0}, {[]byte{0xF4, 0x8F}, nil, 2}, {[]byte{0xF4}, []int32{utf.Bad}, 1},
	} {
		if got := mustRead(t, r, x.b); !slices.Equal(got, x.want) || r.Waits() != x.waits || r.Waits() != x.waits {
			t.Fatalf("Read(% X) = %X, %d wait, want %X, %d", x.b, got, r.Waits(), x.want, x.waits)
		}
	}
}

// P13.2: End is Bad once, if something waits; a reader goes on behind it.
func TestEnd(t *testing.T) {
	r := utf.New()
	if got := mustEnd(t, r); len(got) != 0 {
		t.Errorf("End of a new reader: %X", got)
	}
	for _, b := range [][]byte{{0xC3}, {0xE2}, {0xE2, 0x82}, {0xF0}, {0xF0, 0x9F}, {0xF0, 0x9F, 0x98}, {'a', 0xF4, 0x8F}} {
		mustRead(t, r, b)
		if got := mustEnd(t, r); !slices.Equal(got, []int32{utf.Bad}) {
			t.Errorf("End behind % X: %X", b, got)
		}
		if got := mustEnd(t, r); len(got) != 0 {
			t.Errorf("End once more: %X", got)
		}
		// Nothing waits: what could have followed stands alone.
		if got := mustRead(t, r, []byte{0x80, 'b'}); !slices.Equal(got, []int32{utf.Bad, 'b'}) {
			t.Errorf("behind End of % X: %X", b, got)
		}
	}
	mustRead(t, r, []byte("whole\xc3\xa4"))
	if got := mustEnd(t, r); len(got) != 0 {
		t.Errorf("End of what is whole: %X", got)
	}
}

// P13.2: of nil, and of one that no call made.
func TestNoReader(t *testing.T) {
	var none *utf.Reader
	var zero utf.Reader
	held := struct{ utf.Reader }{}
	for i, r := range []*utf.Reader{none, &zero, new(utf.Reader), {}, &held.Reader} {
		for range 2 {
			for _, b := range [][]byte{nil, {}, {'A'}, {0xC3}, {0xF0, 0x9F, 0x98}, {0x80}} {
				if l, e := r.Read(b); e != api.ErrNil || len(l) != 0 {
					t.Errorf("%d: Read(% X) = %X, %v", i, b, l, e)
				}
				if n := r.Waits(); n != 0 {
					t.Errorf("%d: Waits is %d", i, n)
				}
				if l, e := r.End(); e != api.ErrNil || len(l) != 0 {
					t.Errorf("%d: End = %X, %v", i, l, e)
				}
			}
		}
	}
	if zero != (utf.Reader{}) {
		t.Error("a Reader that no call made has changed")
	}
}

// mixed is bytes of which many are right, and many are at the borders.
func mixed(r *rand.Rand, n int) []byte {
	var b []byte
	for len(b) < n {
		switch r.Intn(5) {
		case 0:
			b = append(b, borders[r.Intn(len(borders))])
		case 1:
			b = append(b, byte(r.Intn(256)))
		case 2:
			c := string(rune(r.Intn(0x110000)))
			b = append(b, c[:1+r.Intn(len(c))]...)
		default:
			b = append(b, string(rune(r.Intn(1<<(3+r.Intn(18)))))...)
		}
	}
	return b[:n]
}

// P13.3: in whatever pieces bytes come, they are read the same, and as the document words it.
func TestPieces(t *testing.T) {
	r := rand.New(rand.NewSource(13))
	seen := [4]int{}
	for range 4000 {
		b := mixed(r, r.Intn(40))
		want := whole(b)
		wantPoints(t, b, want)
		reader := utf.New()
		var got []int32
		for at := 0; at < len(b); {
			n := min(r.Intn(6), len(b)-at)
			got = append(got, mustRead(t, reader, b[at:at+n])...)
			at += n
			points, waits := worded(b[:at])
			if !slices.Equal(got, points) || reader.Waits() != waits {
				t.Fatalf("% X is read as %X, %d wait, want %X, %d", b[:at], got, reader.Waits(), points, waits)
			}
			seen[waits]++
		}
		if got = append(got, mustEnd(t, reader)...); !slices.Equal(got, want) {
			t.Fatalf("in pieces % X is %X, want %X", b, got, want)
		}
	}
	for waits, n := range seen {
		if n < 100 {
			t.Errorf("%d bytes waited %d times alone", waits, n)
		}
	}
}

// P13.4 and P2: all points go there and back, one by one and in one text.
func TestThereAndBack(t *testing.T) {
	var all []int32
	for p := int32(0); p <= 0x10FFFF; p++ {
		if !utf.Is(p) {
			continue
		}
		all = append(all, p)
		if b := utf.Bytes([]int32{p}); string(b) != string(rune(p)) || !slices.Equal(utf.Points(b), []int32{p}) {
			t.Fatalf("%X is % X, and back %X", p, b, utf.Points(b))
		}
	}
	if got := utf.Points(utf.Bytes(all)); !slices.Equal(got, all) {
		t.Errorf("all points: %d come back, want %d", len(got), len(all))
	}
	// What is no point comes back as Bad.
	if got := utf.Points(utf.Bytes([]int32{-1, 'a', 0xD800, 0x110000})); !slices.Equal(got, []int32{utf.Bad, 'a', utf.Bad, utf.Bad}) {
		t.Errorf("what is none comes back as %X", got)
	}
	if got := utf.Bytes(utf.Points([]byte("a\u00e4\u20ac\U0001f600"))); string(got) != "a\u00e4\u20ac\U0001f600" {
		t.Errorf("a text comes back as %q", got)
	}
}

// P13.4: every byte is told by a point, and there are no more points than bytes.
func TestCounts(t *testing.T) {
	r := rand.New(rand.NewSource(134))
	for range 4000 {
		b := mixed(r, r.Intn(30))
		l := utf.Points(b)
		if len(l) > len(b) || 4*len(l) < len(b) {
			t.Fatalf("% X: %d points", b, len(l))
		}
		for _, p := range l {
			if !utf.Is(p) {
				t.Fatalf("% X: %X is no point", b, p)
			}
		}
		// With one letter more, one point more is told: a beginning at the end took none of it.
		if more := utf.Points(append(b[:len(b):len(b)], 'A')); !slices.Equal(more, append(l[:len(l):len(l)], 'A')) {
			t.Fatalf("% X: %X, and with a letter more %X", b, l, more)
		}
	}
	for _, c := range []byte{0x80, 0xFF, 0xC0, 'A'} {
		if n := len(utf.Points(bytes.Repeat([]byte{c}, 100))); n != 100 {
			t.Errorf("100 bytes %X are %d points", c, n)
		}
	}
}

// Rules 4 and 5: what is handed in is neither changed nor kept nor read behind its length, and what is handed out is new.
func TestMemory(t *testing.T) {
	held := []byte{'a', 0xC3, 0xA4, 0xE2, 0x82, 0xAC, 'z'}
	saved := bytes.Clone(held)
	r := utf.New()
	l := mustRead(t, r, held[:4])
	if r.Waits() != 1 || !slices.Equal(l, []int32{'a', 0xE4}) {
		t.Fatalf("Read read behind the length: %X", l)
	}
	for i := range held {
		held[i] ^= 0xFF
	}
	more := mustRead(t, r, []byte{0x82, 0xAC})
	if !slices.Equal(more, []int32{0x20AC}) {
		t.Errorf("what was handed in was kept: %X", more)
	}
	for i := range held {
		held[i] ^= 0xFF
	}
	if !bytes.Equal(held, saved) {
		t.Error("what was handed in was changed")
	}
	if !slices.Equal(l, []int32{'a', 0xE4}) {
		t.Errorf("what was handed out was changed: %X", l)
	}
	points := []int32{'a', 0xE4, 'q'}
	first := utf.Bytes(points[:2])
	second := utf.Bytes(points[:2])
	first[0], first[1] = 'x', 'x'
	if string(second) != "a\u00e4" || !slices.Equal(points, []int32{'a', 0xE4, 'q'}) {
		t.Errorf("Bytes: % X, %X", second, points)
	}
	one, two := utf.Points(saved), utf.Points(saved)
	one[0] = 'x'
	if two[0] != 'a' || saved[0] != 'a' {
		t.Errorf("Points share memory")
	}
	wantPoints(t, saved[:5:7], []int32{'a', 0xE4, utf.Bad})
	ends := [2][]int32{}
	for i := range ends {
		mustRead(t, r, []byte{0xC3})
		ends[i] = mustEnd(t, r)
	}
	ends[0][0] = 5
	if ends[1][0] != utf.Bad {
		t.Error("two answers of End share memory")
	}
}

// Two readers do not know of each other, and the same calls are answered the same.
func TestSideBySide(t *testing.T) {
	a, b := utf.New(), utf.New()
	mustRead(t, a, []byte{0xE2, 0x82})
	mustRead(t, b, []byte{0xC3})
	if got := mustRead(t, a, []byte{0xAC}); !slices.Equal(got, []int32{0x20AC}) || b.Waits() != 1 {
		t.Errorf("a: %X, b waits %d", got, b.Waits())
	}
	if got := mustRead(t, b, []byte{0xA4}); !slices.Equal(got, []int32{0xE4}) {
		t.Errorf("b: %X", got)
	}
	c := utf.New()
	if got := mustRead(t, c, []byte{0x82}); !slices.Equal(got, []int32{utf.Bad}) {
		t.Errorf("a new reader: %X", got)
	}
}
