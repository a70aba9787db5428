package bitmap_test

import (
	"bytes"
	"math"
	"math/bits"
	"math/rand"
	"slices"
	"testing"

	"longline/api"
	"longline/bitmap"
)

// counts are those that no map may have.
var counts = []int{math.MinInt, math.MinInt32, -65, -64, -1, 65, 66, 127, 128, 255, 256, 320, 1 << 32, 1<<32 + 9, math.MaxInt}

// places are those at which a map of n chunks may have one, and those beyond.
func places(n int) []int {
	l := []int{math.MinInt, math.MinInt32, -65, -64, -2, -1, 1 << 32, 1<<32 + 1, math.MaxInt}
	for i := range 130 {
		l = append(l, i)
	}
	return append(l, n-1, n, n+1)
}

// worded is a map as the document words it: which chunks are there, one by one.
type worded []bool

func wordedOf(m bitmap.Map) worded {
	w := make(worded, m.N)
	for i := range w {
		w[i] = m.Bits&(1<<uint(i)) != 0
	}
	return w
}

func (w worded) fits(i int) bool { return i >= 0 && i < len(w) }

func (w worded) has(i int) bool { return w.fits(i) && w[i] }

func (w worded) missing() []int {
	var l []int
	for i := range w {
		if !w[i] {
			l = append(l, i)
		}
	}
	return l
}

func (w worded) made() bitmap.Map {
	m := bitmap.Map{N: len(w)}
	for i := range w {
		if w[i] {
			m.Bits |= 1 << uint(i)
		}
	}
	return m
}

func (w worded) bytes() []byte {
	b := make([]byte, 1+(len(w)+7)/8)
	b[0] = byte(len(w))
	for i := range w {
		if w[i] {
			b[1+i/8] |= 1 << (i % 8)
		}
	}
	return b
}

// wantMap asks for all that a map tells of itself, and holds it against the document's wording.
func wantMap(t *testing.T, m bitmap.Map) {
	t.Helper()
	w := wordedOf(m)
	if !bitmap.Right(m) {
		t.Fatalf("%v may not be", m)
	}
	if m.Count() != bits.OnesCount64(m.Bits) || m.Full() != (len(w.missing()) == 0) {
		t.Fatalf("%v: Count = %d, Full = %v", m, m.Count(), m.Full())
	}
	if l := m.Missing(); !slices.Equal(l, w.missing()) || len(l)+m.Count() != m.N {
		t.Fatalf("%v: Missing = %v, want %v", m, l, w.missing())
	}
	for _, i := range places(m.N) {
		if m.Has(i) != w.has(i) {
			t.Fatalf("%v: Has(%d) = %v", m, i, m.Has(i))
		}
	}
	wantThere(t, m, w.bytes())
}

// wantThere goes there and back.
func wantThere(t *testing.T, m bitmap.Map, want []byte) {
	t.Helper()
	b, e := bitmap.Write(m)
	if e != api.OK || !bytes.Equal(b, want) {
		t.Fatalf("Write(%v) = %v, %v, want %v", m, b, e, want)
	}
	if back, e := bitmap.Read(b); e != api.OK || back != m {
		t.Fatalf("Read(%v) = %v, %v, want %v", b, back, e, m)
	}
}

// wantWith puts a chunk wherever one may be asked for.
func wantWith(t *testing.T, m bitmap.Map) {
	t.Helper()
	for _, i := range places(m.N) {
		w := wordedOf(m)
		was := m
		got, e := m.With(i)
		if m != was {
			t.Fatalf("With(%d) changes what it is asked of", i)
		}
		if !w.fits(i) {
			if e != api.ErrArg || got != (bitmap.Map{}) {
				t.Fatalf("%v.With(%d) = %v, %v", m, i, got, e)
			}
			continue
		}
		w[i] = true
		if e != api.OK || got != w.made() || !got.Has(i) {
			t.Fatalf("%v.With(%d) = %v, %v, want %v", m, i, got, e, w.made())
		}
	}
}

// wantNone is of a map that may not be.
func wantNone(t *testing.T, m bitmap.Map) {
	t.Helper()
	if bitmap.Right(m) || m.Count() != 0 || len(m.Missing()) != 0 || m.Full() {
		t.Fatalf("%v: Right = %v, Count = %d, Missing = %v, Full = %v", m, bitmap.Right(m), m.Count(), m.Missing(), m.Full())
	}
	for _, i := range places(m.N) {
		if m.Has(i) {
			t.Fatalf("%v: Has(%d)", m, i)
		}
		if got, e := m.With(i); e != api.ErrForm || got != (bitmap.Map{}) {
			t.Fatalf("%v.With(%d) = %v, %v", m, i, got, e)
		}
	}
	if b, e := bitmap.Write(m); e != api.ErrForm || len(b) != 0 {
		t.Fatalf("Write(%v) = %v, %v", m, b, e)
	}
	for _, o := range []bitmap.Map{m, {}, {N: 9, Bits: 3}, {N: 64, Bits: math.MaxUint64}, {N: -1}} {
		for _, pair := range [][2]bitmap.Map{{m, o}, {o, m}} {
			if got, e := bitmap.Or(pair[0], pair[1]); e != api.ErrForm || got != (bitmap.Map{}) {
				t.Fatalf("Or(%v, %v) = %v, %v", pair[0], pair[1], got, e)
			}
		}
	}
}

// wantNoMap is of bytes that are no map's.
func wantNoMap(t *testing.T, b []byte) {
	t.Helper()
	if m, e := bitmap.Read(b); e != api.ErrForm || m != (bitmap.Map{}) {
		t.Fatalf("Read(%v) = %v, %v", b, m, e)
	}
}

// P24.1: of a new map none is there; a map has from 0 to MaxChunks.
func TestNew(t *testing.T) {
	for n := range 65 {
		m, e := bitmap.New(n)
		if e != api.OK || m != (bitmap.Map{N: n}) || m.Count() != 0 || len(m.Missing()) != n || m.Full() != (n == 0) {
			t.Errorf("New(%d) = %v, %v", n, m, e)
		}
		wantMap(t, m)
		wantWith(t, m)
	}
	for _, n := range counts {
		if m, e := bitmap.New(n); e != api.ErrArg || m != (bitmap.Map{}) {
			t.Errorf("New(%d) = %v, %v", n, m, e)
		}
	}
}

// The document's example.
func TestExample(t *testing.T) {
	m, _ := bitmap.New(9)
	m, e := m.With(8)
	if e != api.OK {
		t.Fatalf("With: %v", e)
	}
	wantThere(t, m, []byte{9, 0, 1})
}

// P24.1 and P24.2: maps by hand.
func TestByHand(t *testing.T) {
	for _, x := range []struct {
		m       bitmap.Map
		count   int
		missing []int
		full    bool
		b       []byte
	}{
		{bitmap.Map{}, 0, nil, true, []byte{0}},
		{bitmap.Map{N: 1}, 0, []int{0}, false, []byte{1, 0}},
		{bitmap.Map{N: 1, Bits: 1}, 1, nil, true, []byte{1, 1}},
		{bitmap.Map{N: 3, Bits: 2}, 1, []int{0, 2}, false, []byte{3, 2}},
		{bitmap.Map{N: 8, Bits: 0x7F}, 7, []int{7}, false, []byte{8, 0x7F}},
		{bitmap.Map{N: 8, Bits: 0xFF}, 8, nil, true, []byte{8, 0xFF}},
		{bitmap.Map{N: 9, Bits: 0x1FE}, 8, []int{0}, false, []byte{9, 0xFE, 1}},
		{bitmap.Map{N: 16, Bits: 0x8001}, 2, []int{1, 2, 3, 4, 5, 6, 7, 8, 9, 10, 11, 12, 13, 14}, false, []byte{16, 1, 0x80}},
		{bitmap.Map{N: 17, Bits: 0x1FFFF}, 17, nil, true, []byte{17, 0xFF, 0xFF, 1}},
		{bitmap.Map{N: 63, Bits: 1<<63 - 1}, 63, nil, true, []byte{63, 255, 255, 255, 255, 255, 255, 255, 127}},
		{bitmap.Map{N: 64, Bits: 1<<63 - 1}, 63, []int{63}, false, []byte{64, 255, 255, 255, 255, 255, 255, 255, 127}},
		{bitmap.Map{N: 64, Bits: math.MaxUint64 - 1}, 63, []int{0}, false, []byte{64, 254, 255, 255, 255, 255, 255, 255, 255}},
		{bitmap.Map{N: 64, Bits: math.MaxUint64}, 64, nil, true, []byte{64, 255, 255, 255, 255, 255, 255, 255, 255}},
		{bitmap.Map{N: 64, Bits: 0x0807060504030201}, 13, nil, false, []byte{64, 1, 2, 3, 4, 5, 6, 7, 8}},
	} {
		if x.m.Count() != x.count || x.m.Full() != x.full {
			t.Errorf("%v: Count = %d, Full = %v", x.m, x.m.Count(), x.m.Full())
		}
		if l := x.m.Missing(); (x.full || x.missing != nil) && !slices.Equal(l, x.missing) {
			t.Errorf("%v: Missing = %v", x.m, l)
		}
		wantThere(t, x.m, x.b)
		wantMap(t, x.m)
		wantWith(t, x.m)
	}
}

// P24.1, P24.2 and P24.3: all maps of at most eleven chunks.
func TestAllSmall(t *testing.T) {
	for n := range 12 {
		for set := range uint64(1) << n {
			wantMap(t, bitmap.Map{N: n, Bits: set})
		}
	}
	for n := range 6 {
		for set := range uint64(1) << n {
			wantWith(t, bitmap.Map{N: n, Bits: set})
		}
	}
}

// P24.1: a bit behind N, wherever it stands, and an N that may not be, are of no map.
func TestWrong(t *testing.T) {
	for n := range 64 {
		whole := uint64(1)<<n - 1
		for at := n; at < 64; at++ {
			wantNone(t, bitmap.Map{N: n, Bits: 1 << at})
			wantNone(t, bitmap.Map{N: n, Bits: whole | 1<<at})
		}
		wantNone(t, bitmap.Map{N: n, Bits: math.MaxUint64})
		wantNone(t, bitmap.Map{N: n, Bits: ^whole})
	}
	for _, n := range counts {
		for _, set := range []uint64{0, 1, 2, 1 << 63, math.MaxUint64} {
			wantNone(t, bitmap.Map{N: n, Bits: set})
		}
	}
}

// P24.1: chunks come one by one, in any order, each as often as it likes, till none is missing.
func TestFillUp(t *testing.T) {
	r := rand.New(rand.NewSource(24))
	for n := range 65 {
		m, _ := bitmap.New(n)
		for came, i := range r.Perm(n) {
			if m.Full() || m.Has(i) || m.Count() != came {
				t.Fatalf("%v: %d is there, or %d are", m, i, m.Count())
			}
			for range 2 {
				next, e := m.With(i)
				if e != api.OK {
					t.Fatalf("%v.With(%d): %v", m, i, e)
				}
				m = next
			}
			wantMap(t, m)
		}
		if !m.Full() || m.Count() != n || len(m.Missing()) != 0 {
			t.Fatalf("%v is not full", m)
		}
	}
}

// anyMap is one that may be, of any count.
func anyMap(r *rand.Rand, n int) bitmap.Map {
	set := r.Uint64()
	switch r.Intn(4) {
	case 0:
		set &= r.Uint64() & r.Uint64()
	case 1:
		set |= r.Uint64() | r.Uint64()
	}
	if n < 64 {
		set &= 1<<n - 1
	}
	return bitmap.Map{N: n, Bits: set}
}

// P24.1 to P24.3: maps at random.
func TestAnyMaps(t *testing.T) {
	r := rand.New(rand.NewSource(241))
	for range 20000 {
		wantMap(t, anyMap(r, r.Intn(65)))
	}
	for range 2000 {
		wantWith(t, anyMap(r, r.Intn(65)))
	}
}

// P24.1: what is there in one of two.
func TestOr(t *testing.T) {
	r := rand.New(rand.NewSource(242))
	for range 20000 {
		n, k := r.Intn(65), r.Intn(65)
		a, b, other := anyMap(r, n), anyMap(r, n), anyMap(r, k)
		w := wordedOf(a)
		for i, there := range wordedOf(b) {
			w[i] = w[i] || there
		}
		got, e := bitmap.Or(a, b)
		back, f := bitmap.Or(b, a)
		if e != api.OK || f != api.OK || got != w.made() || back != got {
			t.Fatalf("Or(%v, %v) = %v, %v", a, b, got, e)
		}
		if n == k {
			continue
		}
		if got, e := bitmap.Or(a, other); e != api.ErrArg || got != (bitmap.Map{}) {
			t.Fatalf("Or(%v, %v) = %v, %v", a, other, got, e)
		}
	}
	if got, e := bitmap.Or(bitmap.Map{}, bitmap.Map{}); e != api.OK || got != (bitmap.Map{}) {
		t.Errorf("Or of no chunks: %v, %v", got, e)
	}
	// What may not be is told ahead of an unlike N.
	for _, bad := range []bitmap.Map{{N: 2, Bits: 4}, {N: -1}, {N: 65}} {
		if got, e := bitmap.Or(bitmap.Map{N: 9}, bad); e != api.ErrForm || got != (bitmap.Map{}) {
			t.Errorf("Or with %v = %v, %v", bad, got, e)
		}
	}
}

// P24.2: bytes that are no map's: none at all, too few, too many, a count that may not be, a bit behind it.
func TestNoMaps(t *testing.T) {
	wantNoMap(t, nil)
	wantNoMap(t, []byte{})
	for n := range 256 {
		for size := range 40 {
			b := make([]byte, 1+size)
			b[0] = byte(n)
			if n <= 64 && size == (n+7)/8 {
				if m, e := bitmap.Read(b); e != api.OK || m != (bitmap.Map{N: n}) {
					t.Fatalf("Read(%v) = %v, %v", b, m, e)
				}
				continue
			}
			wantNoMap(t, b)
			for i := range size {
				b[1+i] = 255
			}
			wantNoMap(t, b)
		}
	}
	for n := range 65 {
		size := (n + 7) / 8
		for at := n; at < 8*size; at++ {
			b := make([]byte, 1+size)
			b[0] = byte(n)
			b[1+at/8] = 1 << (at % 8)
			wantNoMap(t, b)
			for i := range n {
				b[1+i/8] |= 1 << (i % 8)
			}
			wantNoMap(t, b)
		}
	}
	wantNoMap(t, make([]byte, 70000))
}

// P24.2: what is read is written as it was, or is no map's.
func TestAnyBytes(t *testing.T) {
	r := rand.New(rand.NewSource(243))
	good := 0
	for range 100000 {
		b := make([]byte, r.Intn(11))
		r.Read(b)
		if len(b) > 1 && r.Intn(4) > 0 {
			b[0] = byte(8*(len(b)-1) - r.Intn(9))
		}
		m, e := bitmap.Read(b)
		if e != api.OK {
			if e != api.ErrForm || m != (bitmap.Map{}) {
				t.Fatalf("Read(%v) = %v, %v", b, m, e)
			}
			continue
		}
		good++
		if again, e := bitmap.Write(m); e != api.OK || !bytes.Equal(again, b) {
			t.Fatalf("Read(%v) = %v, which is written %v, %v", b, m, again, e)
		}
	}
	if good < 5000 {
		t.Errorf("%d good ones", good)
	}
}

// Rules 4 and 5: nothing that is handed in is changed, nothing behind its length is read, and what is handed out is new.
func TestMemory(t *testing.T) {
	room := []byte{9, 2, 1, 7, 7}
	if m, e := bitmap.Read(room[:3]); e != api.OK || m != (bitmap.Map{N: 9, Bits: 0x102}) {
		t.Errorf("Read = %v, %v", m, e)
	}
	wantNoMap(t, room[:2])
	wantNoMap(t, room[:0])
	if !bytes.Equal(room, []byte{9, 2, 1, 7, 7}) {
		t.Errorf("what was handed in is %v", room)
	}
	m := bitmap.Map{N: 9, Bits: 0x102}
	b, _ := bitmap.Write(m)
	l := m.Missing()
	clear(b)
	clear(l)
	wantMap(t, m)
}
