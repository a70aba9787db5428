package crc_test

import (
	"bytes"
	"hash/crc32"
	"math/rand"
	"sync"
	"testing"

	"longline/crc"
)

// bitByBit is the sum as the document words it, without a table.
func bitByBit(b []byte) uint32 {
	v := uint32(0xFFFFFFFF)
	for _, c := range b {
		v ^= uint32(c)
		for range 8 {
			if v&1 == 1 {
				v = v/2 ^ 0xEDB88320
			} else {
				v /= 2
			}
		}
	}
	return ^v
}

// texts has one of each small length, and some that are long.
func texts() [][]byte {
	r := rand.New(rand.NewSource(1))
	lengths := []int{255, 256, 257, 1000, 65536}
	for n := range 40 {
		lengths = append(lengths, n)
	}
	var l [][]byte
	for _, n := range lengths {
		b := make([]byte, n)
		r.Read(b)
		l = append(l, b, make([]byte, n), bytes.Repeat([]byte{255}, n))
	}
	return l
}

func TestOf(t *testing.T) {
	for _, x := range []struct {
		text string
		want uint32
	}{
		{"", 0},
		{"123456789", 0xCBF43926},
		{"a", 0xE8B7BE43},
		{"\x00", 0xD202EF8D},
		{"\xff", 0xFF000000},
		{"\x00\x00\x00\x00", 0x2144DF1C},
	} {
		if got := crc.Of([]byte(x.text)); got != x.want {
			t.Errorf("Of(%q) = %x, want %x", x.text, got, x.want)
		}
	}
	if got := crc.Of(nil); got != 0 {
		t.Errorf("Of(nil) = %x", got)
	}
	for _, b := range texts() {
		got := crc.Of(b)
		if got != bitByBit(b) || got != crc32.ChecksumIEEE(b) {
			t.Errorf("Of %d bytes = %x, want %x", len(b), got, bitByBit(b))
		}
	}
	for i := range 256 {
		if b := []byte{byte(i)}; crc.Of(b) != bitByBit(b) {
			t.Errorf("Of(%v) = %x, want %x", b, crc.Of(b), bitByBit(b))
		}
	}
}

// P2.3: cut anywhere, a sum goes on; at a Summer that is new, zero, used, or nil.
func TestMoreGoesOn(t *testing.T) {
	used := &crc.Summer{}
	used.More(77, []byte("other"))
	var zero crc.Summer
	var none *crc.Summer
	for _, s := range []*crc.Summer{new(crc.Summer), &zero, used, none} {
		for _, b := range texts() {
			if len(b) > 300 {
				continue
			}
			want := bitByBit(b)
			for cut := range len(b) + 1 {
				if got := s.More(crc.Of(b[:cut]), b[cut:]); got != want {
					t.Fatalf("More at %d of %d bytes = %x, want %x", cut, len(b), got, want)
				}
			}
			sum := uint32(0)
			for i := range b {
				sum = s.More(sum, b[i:i+1])
			}
			if sum != want {
				t.Fatalf("byte by byte, %d bytes have %x, want %x", len(b), sum, want)
			}
		}
	}
}

// Nothing behind bytes leaves any sum as it was.
func TestMoreOfNothing(t *testing.T) {
	s := &crc.Summer{}
	for _, sum := range []uint32{0, 1, 0xCBF43926, 0x80000000, 0xFFFFFFFF} {
		if s.More(sum, nil) != sum || s.More(sum, []byte{}) != sum {
			t.Errorf("More(%x, nothing) = %x", sum, s.More(sum, nil))
		}
		if got, want := s.More(sum, []byte("xyz")), crc32.Update(sum, crc32.IEEETable, []byte("xyz")); got != want {
			t.Errorf("More(%x, xyz) = %x, want %x", sum, got, want)
		}
	}
}

func TestRuns(t *testing.T) {
	var none *crc.Summer
	if none.Runs() != 0 {
		t.Errorf("Runs of nil = %d", none.Runs())
	}
	none.More(0, []byte("a"))
	if none.Runs() != 0 {
		t.Errorf("Runs of nil behind More = %d", none.Runs())
	}
	var a, b crc.Summer
	for i := range 5 {
		if a.Runs() != i {
			t.Errorf("Runs = %d, want %d", a.Runs(), i)
		}
		a.More(0, nil)
	}
	crc.Of([]byte("a"))
	crc.Ends(crc.Close([]byte("a")))
	if a.Runs() != 5 || b.Runs() != 0 {
		t.Errorf("Runs = %d and %d, want 5 and 0", a.Runs(), b.Runs())
	}
	b.More(0, make([]byte, 1000))
	if b.Runs() != 1 {
		t.Errorf("Runs = %d, want 1", b.Runs())
	}
}

func TestManyCountAtOnce(t *testing.T) {
	s := &crc.Summer{}
	want := bitByBit([]byte("123456789"))
	var wg sync.WaitGroup
	wrong := make([]int, 8)
	for g := range wrong {
		wg.Go(func() {
			for range 2000 {
				if s.More(0, []byte("123456789")) != want || s.Runs() < 1 {
					wrong[g]++
				}
			}
		})
	}
	wg.Wait()
	for g, n := range wrong {
		if n != 0 {
			t.Errorf("goroutine %d had %d wrong answers", g, n)
		}
	}
	if s.Runs() != 16000 {
		t.Errorf("Runs = %d, want 16000", s.Runs())
	}
}

func TestBytes(t *testing.T) {
	for sum, want := range map[uint32][4]byte{
		0:          {0, 0, 0, 0},
		1:          {1, 0, 0, 0},
		0x04030201: {1, 2, 3, 4},
		0xCBF43926: {0x26, 0x39, 0xF4, 0xCB},
		0xFFFFFFFF: {255, 255, 255, 255},
	} {
		if got := crc.Bytes(sum); got != want {
			t.Errorf("Bytes(%x) = %v, want %v", sum, got, want)
		}
	}
}

func TestClose(t *testing.T) {
	if got := crc.Close([]byte("123456789")); string(got) != "123456789\x26\x39\xf4\xcb" {
		t.Errorf("Close = %x", got)
	}
	for _, none := range [][]byte{nil, {}} {
		if got := crc.Close(none); !bytes.Equal(got, []byte{0, 0, 0, 0}) {
			t.Errorf("Close of nothing = %v", got)
		}
	}
	for _, b := range texts() {
		c := crc.Close(b)
		sum := crc.Bytes(bitByBit(b))
		if !bytes.Equal(c[:len(b)], b) || !bytes.Equal(c[len(b):], sum[:]) {
			t.Errorf("Close of %d bytes is wrong", len(b))
		}
		if !crc.Ends(c) {
			t.Errorf("Ends of %d bytes that were closed is false", len(b))
		}
	}
}

func TestEnds(t *testing.T) {
	for _, x := range []struct {
		b    []byte
		want bool
	}{
		{nil, false},
		{[]byte{}, false},
		{[]byte{0}, false},
		{[]byte{0, 0, 0}, false},
		{[]byte{0, 0, 0, 0}, true},
		{[]byte{0, 0, 0, 1}, false},
		{[]byte{1, 0, 0, 0}, false},
		{[]byte("123456789\x26\x39\xf4\xcb"), true},
		{[]byte("123456789\xcb\xf4\x39\x26"), false},
		{[]byte("123456789"), false},
		{[]byte("123456789\x26\x39\xf4\xcb\x00"), false},
		{[]byte("123456789\x26\x39\xf4"), false},
	} {
		if got := crc.Ends(x.b); got != x.want {
			t.Errorf("Ends(%x) = %v", x.b, got)
		}
	}
}

// flip turns the bits of pattern, its lowest at place at; bits are counted in the order in which they fall out.
func flip(b []byte, at int, pattern uint32) []byte {
	out := bytes.Clone(b)
	for i := range 32 {
		if pattern>>i&1 == 1 {
			out[(at+i)/8] ^= 1 << ((at + i) % 8)
		}
	}
	return out
}

// P2.4: bits that are turned within 32 side by side turn the sum.
func TestBursts(t *testing.T) {
	r := rand.New(rand.NewSource(2))
	for _, n := range []int{4, 5, 16, 65, 300} {
		b := make([]byte, n)
		r.Read(b)
		was := crc.Of(b)
		for at := range 8*n - 31 {
			patterns := []uint32{1, 1 << 31, 1<<31 | 1, 0xFFFFFFFF, 0xEDB88320, 0x04C11DB7}
			for range 20 {
				patterns = append(patterns, r.Uint32()|1<<r.Intn(32))
			}
			for _, p := range patterns {
				if crc.Of(flip(b, at, p)) == was {
					t.Fatalf("%d bytes: the bits %x, turned at %d, don't turn the sum", n, p, at)
				}
			}
		}
	}
}

// P2.4: of what is closed one byte turned is told.
func TestOneByteTurned(t *testing.T) {
	r := rand.New(rand.NewSource(3))
	for _, n := range []int{0, 1, 4, 33, 200} {
		b := make([]byte, n)
		r.Read(b)
		c := crc.Close(b)
		for i := range c {
			for by := 1; by < 256; by++ {
				c[i] ^= byte(by)
				if crc.Ends(c) {
					t.Fatalf("%d bytes: byte %d, turned by %d, is not told", n, i, by)
				}
				c[i] ^= byte(by)
			}
		}
	}
}

// P2.5: the sums of three texts of one length, xor'ed, are that of the three xor'ed.
func TestThreeTexts(t *testing.T) {
	r := rand.New(rand.NewSource(4))
	for _, n := range []int{0, 1, 2, 3, 4, 5, 31, 32, 64, 1000} {
		for range 50 {
			a, b, c, all := make([]byte, n), make([]byte, n), make([]byte, n), make([]byte, n)
			r.Read(a)
			r.Read(b)
			r.Read(c)
			for i := range all {
				all[i] = a[i] ^ b[i] ^ c[i]
			}
			if crc.Of(a)^crc.Of(b)^crc.Of(c) != crc.Of(all) {
				t.Fatalf("three texts of %d bytes", n)
			}
		}
	}
}

// What is handed in is neither changed nor kept, what lies behind it is left alone, and what is handed out is new.
func TestMemory(t *testing.T) {
	whole := []byte("123456789 and more behind")
	was := bytes.Clone(whole)
	b := whole[:9]
	s := &crc.Summer{}
	c := crc.Close(b)
	if crc.Of(b) != 0xCBF43926 || s.More(0, b) != 0xCBF43926 || crc.Ends(b) {
		t.Errorf("what lies behind the length was read")
	}
	if !bytes.Equal(whole, was) {
		t.Fatalf("Close wrote behind the length: %q", whole)
	}
	for i := range c[:cap(c)] {
		c[:cap(c)][i] ^= 255
	}
	if !bytes.Equal(whole, was) {
		t.Errorf("Close hands out what it was given")
	}
	d := crc.Close(b)
	b[0] ^= 255
	if string(d) != "123456789\x26\x39\xf4\xcb" {
		t.Errorf("Close keeps what it was given: %q", d)
	}
	// The sum that would fit lies behind the length.
	closed := crc.Close([]byte("text"))
	if crc.Ends(closed[:7]) || crc.Ends(closed[:4]) {
		t.Errorf("Ends reads behind the length")
	}
}
