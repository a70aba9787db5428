package ctr_test

import (
	"bytes"
	cryptoaes "crypto/aes"
	"crypto/cipher"
	"math"
	"math/rand"
	"testing"

	"longline/aes"
	"longline/api"
	"longline/ctr"
)

// most is how many bytes a call may hide, and how far away and how many it may tell.
const most = 65536

var someKey = api.Key{0x2b, 0x7e, 0x15, 0x16, 0x28, 0xae, 0xd2, 0xa6, 0xab, 0xf7, 0x15, 0x88, 9, 0xcf, 0x4f, 0x3c}

// numbers are the least and the greatest, and some whose bytes are unlike.
var numbers = []uint64{0, 1, 255, 256, 1 << 32, 0x0102030405060708, math.MaxInt64, 1 << 63, math.MaxUint64 - 1, math.MaxUint64}

// lengths are those around blocks' ends, and the limit.
var lengths = []int{0, 1, 2, 15, 16, 17, 31, 32, 33, 47, 48, 49, 255, 256, 257, 512, 4095, 4096, 4097, most - 1, most}

// text is n bytes, always the same ones.
func text(n int) []byte {
	b := make([]byte, n)
	rand.New(rand.NewSource(int64(n))).Read(b)
	return b
}

// wanted is the beginning of a number's stream, by the library's means.
func wanted(t *testing.T, key api.Key, number uint64, n int) []byte {
	t.Helper()
	library, err := cryptoaes.NewCipher(key[:])
	if err != nil {
		t.Fatal(err)
	}
	first := make([]byte, 16)
	for i := range 8 {
		first[i] = byte(number >> (8 * (7 - i)))
	}
	b := make([]byte, n)
	cipher.NewCTR(library, first).XORKeyStream(b, b)
	return b
}

func xor(a, b []byte) []byte {
	out := make([]byte, len(a))
	for i := range a {
		out[i] = a[i] ^ b[i]
	}
	return out
}

func mustHide(t *testing.T, s *ctr.Stream, number uint64, b []byte) []byte {
	t.Helper()
	hidden, e := s.Hide(number, b)
	if e != api.OK {
		t.Fatalf("Hide(%d, %d bytes): %v", number, len(b), e)
	}
	return hidden
}

func mustAt(t *testing.T, s *ctr.Stream, number uint64, from, n int) []byte {
	t.Helper()
	b, e := s.At(number, from, n)
	if e != api.OK {
		t.Fatalf("At(%d, %d, %d): %v", number, from, n, e)
	}
	return b
}

// P6.1: the stream's blocks, block by block as the document words them.
func TestBlocksAsWorded(t *testing.T) {
	c := aes.New(someKey)
	s := ctr.New(someKey)
	for _, number := range numbers {
		// 4096 is the last block with whose first byte a call may begin.
		for _, i := range []int{0, 1, 2, 255, 256, 257, 4095, 4096} {
			var b [16]byte
			for j := range 8 {
				b[j] = byte(number >> (8 * (7 - j)))
				b[8+j] = byte(uint64(i) >> (8 * (7 - j)))
			}
			want, e := c.Turn(b)
			if got := mustAt(t, s, number, 16*i, 16); e != api.OK || !bytes.Equal(got, want[:]) {
				t.Errorf("the block %d of %d = %x, want %x", i, number, got, want)
			}
		}
	}
}

// P6.1: texts of each length, and the examples' nothing.
func TestHide(t *testing.T) {
	s := ctr.New(someKey)
	for _, number := range numbers {
		for _, n := range lengths {
			b := text(n)
			want := xor(b, wanted(t, someKey, number, n))
			if got := mustHide(t, s, number, b); !bytes.Equal(got, want) {
				t.Fatalf("Hide(%d, %d bytes) is wrong", number, n)
			}
		}
	}
	for _, none := range [][]byte{nil, {}} {
		if got := mustHide(t, s, 7, none); len(got) != 0 {
			t.Errorf("Hide of nothing = %x", got)
		}
	}
}

func TestHideTooLong(t *testing.T) {
	s := ctr.New(someKey)
	for _, n := range []int{most + 1, most + 16, 1 << 20} {
		if got, e := s.Hide(0, make([]byte, n)); e != api.ErrLong || len(got) != 0 {
			t.Errorf("Hide of %d bytes = %d bytes, %v", n, len(got), e)
		}
	}
	if s.Blocks() != 0 {
		t.Errorf("Blocks = %d behind an error", s.Blocks())
	}
}

// P6.1: the stream from each place on: within a block, at its end, and at the limits.
func TestAt(t *testing.T) {
	for _, number := range []uint64{0, 0x0102030405060708, math.MaxUint64} {
		s := ctr.New(someKey)
		whole := wanted(t, someKey, number, 2*most)
		for from := range 50 {
			for n := range 50 {
				if got := mustAt(t, s, number, from, n); !bytes.Equal(got, whole[from:from+n]) {
					t.Fatalf("At(%d, %d, %d) = %x", number, from, n, got)
				}
			}
		}
		for _, from := range lengths {
			for _, n := range lengths {
				if got := mustAt(t, s, number, from, n); !bytes.Equal(got, whole[from:from+n]) {
					t.Fatalf("At(%d, %d, %d) is wrong", number, from, n)
				}
			}
		}
	}
}

func TestAtWrongPlaces(t *testing.T) {
	s := ctr.New(someKey)
	good := []int{0, 1, 16, most}
	bad := []int{math.MinInt, math.MinInt32, -16, -1, most + 1, 1 << 20, math.MaxInt32, math.MaxInt}
	check := func(from, n int) {
		t.Helper()
		if got, e := s.At(3, from, n); e != api.ErrArg || len(got) != 0 {
			t.Errorf("At(3, %d, %d) = %d bytes, %v", from, n, len(got), e)
		}
	}
	for _, a := range bad {
		for _, b := range good {
			check(a, b)
			check(b, a)
		}
		for _, b := range bad {
			check(a, b)
		}
	}
	if s.Blocks() != 0 {
		t.Errorf("Blocks = %d behind errors", s.Blocks())
	}
}

// P6.1: as many blocks are turned as have the bytes that are told, and no other ones.
func TestBlocks(t *testing.T) {
	s, other := ctr.New(someKey), ctr.New(someKey)
	if s.Blocks() != 0 {
		t.Errorf("Blocks of a new one = %d", s.Blocks())
	}
	count := 0
	check := func(what string, n, more int) {
		t.Helper()
		count += more
		if s.Blocks() != count || s.Blocks() != s.Turns() {
			t.Fatalf("%s of %d bytes: Blocks = %d, Turns = %d, want %d", what, n, s.Blocks(), s.Turns(), count)
		}
	}
	for n, more := range map[int]int{0: 0, 1: 1, 15: 1, 16: 1, 17: 2, 32: 2, 33: 3, most - 1: 4096, most: 4096} {
		mustHide(t, s, 5, text(n))
		check("Hide", n, more)
		mustHide(t, s, 5, text(n))
		check("Hide, again,", n, more)
		mustAt(t, s, 5, 0, n)
		check("At", n, more)
	}
	for _, x := range []struct{ from, n, more int }{
		{5, 0, 0}, {16, 0, 0}, {most, 0, 0}, {15, 1, 1}, {15, 2, 2}, {16, 16, 1}, {8, 16, 2}, {31, 1, 1}, {1, 47, 3}, {1, 48, 4}, {most, 1, 1}, {most, most, 4096}, {most - 1, most, 4097},
	} {
		mustAt(t, s, 5, x.from, x.n)
		check("At", x.n, x.more)
	}
	if other.Blocks() != 0 {
		t.Errorf("Blocks of another one = %d", other.Blocks())
	}
}

// Ways: a stream has its cipher's calls.
func TestCiphersCalls(t *testing.T) {
	s, c := ctr.New(someKey), aes.New(someKey)
	want, _ := c.Turn([16]byte{1})
	if got, e := s.Turn([16]byte{1}); e != api.OK || got != want || s.Words() != c.Words() {
		t.Errorf("a stream's cipher is another one: %x, %v", got, e)
	}
	if s.Blocks() != 1 || s.Turns() != 1 {
		t.Errorf("Blocks = %d, Turns = %d, want 1", s.Blocks(), s.Turns())
	}
}

// P6.2: what is hidden twice is as it was, whichever stream of the key does it.
func TestHiddenTwice(t *testing.T) {
	a, b := ctr.New(someKey), ctr.New(someKey)
	for _, number := range numbers {
		for _, n := range lengths {
			plain := text(n)
			hidden := mustHide(t, a, number, plain)
			if n > 16 && bytes.Equal(hidden, plain) {
				t.Fatalf("%d bytes are not hidden", n)
			}
			if !bytes.Equal(mustHide(t, b, number, hidden), plain) {
				t.Fatalf("%d bytes, hidden twice by %d, are others", n, number)
			}
		}
	}
}

// P6.2: where a text is cut, both parts are hidden by the stream's parts.
func TestCut(t *testing.T) {
	s := ctr.New(someKey)
	for _, n := range []int{0, 1, 16, 17, 40, 100, most} {
		plain := text(n)
		hidden := mustHide(t, s, 77, plain)
		for _, cut := range append([]int{1, 7, 15, 16, 17, 24, 32, 33, 48, 64, most / 2, most/2 + 1}, n) {
			if cut > n {
				continue
			}
			first := xor(plain[:cut], mustAt(t, s, 77, 0, cut))
			second := xor(plain[cut:], mustAt(t, s, 77, cut, n-cut))
			if !bytes.Equal(append(first, second...), hidden) {
				t.Fatalf("%d bytes, cut at %d, are hidden otherwise", n, cut)
			}
			if !bytes.Equal(mustHide(t, s, 77, plain[:cut]), hidden[:cut]) {
				t.Fatalf("the first %d of %d bytes are hidden otherwise", cut, n)
			}
		}
	}
}

// Streams of unlike keys and numbers are unlike.
func TestUnlike(t *testing.T) {
	seen := map[string]int{}
	for k := range 3 {
		s := ctr.New(api.Key{15: byte(k)})
		for _, number := range numbers {
			block := string(mustAt(t, s, number, 0, 16))
			if seen[block]++; seen[block] > 1 {
				t.Errorf("the stream of %d with the key %d is another one's", number, k)
			}
		}
	}
}

// P6.1: of nil, and of one that no call made, though it may have a cipher.
func TestNoStream(t *testing.T) {
	var none *ctr.Stream
	var zero ctr.Stream
	used := aes.New(someKey)
	used.Turn([16]byte{})
	bare := ctr.New(someKey)
	bare.Cipher = nil
	for i, s := range []*ctr.Stream{none, &zero, new(ctr.Stream), {Cipher: used}, {Cipher: new(aes.Cipher)}, bare} {
		for _, b := range [][]byte{nil, {}, {1}, text(17), text(most)} {
			if got, e := s.Hide(1, b); e != api.ErrNil || len(got) != 0 {
				t.Errorf("%d: Hide of %d bytes = %x, %v", i, len(b), got, e)
			}
		}
		for _, n := range []int{0, 1, 17, most} {
			if got, e := s.At(1, n, n); e != api.ErrNil || len(got) != 0 {
				t.Errorf("%d: At %d = %x, %v", i, n, got, e)
			}
		}
		// Rule 2: what is too long, or no place, the chapter names first.
		if got, e := s.Hide(1, make([]byte, most+1)); e != api.ErrLong || len(got) != 0 {
			t.Errorf("%d: Hide of too much = %x, %v", i, got, e)
		}
		for _, wrong := range []int{-1, most + 1} {
			if got, e := s.At(1, wrong, 0); e != api.ErrArg || len(got) != 0 {
				t.Errorf("%d: At %d = %x, %v", i, wrong, got, e)
			}
			if got, e := s.At(1, 0, wrong); e != api.ErrArg || len(got) != 0 {
				t.Errorf("%d: At of %d bytes = %x, %v", i, wrong, got, e)
			}
		}
		if s.Blocks() != 0 {
			t.Errorf("%d: Blocks = %d", i, s.Blocks())
		}
	}
	if used.Turns() != 1 {
		t.Errorf("a stream that no call made has turned %d blocks", used.Turns()-1)
	}
	empty := ctr.New(someKey)
	empty.Cipher = new(aes.Cipher)
	if got, e := empty.Hide(1, []byte{1}); e != api.ErrNil || len(got) != 0 || empty.Blocks() != 0 {
		t.Errorf("Hide with a cipher that no call made = %x, %v", got, e)
	}
}

// Rules 4 and 5: what is handed in is not changed, what lies behind it is left alone, and what is handed out is new.
func TestMemory(t *testing.T) {
	s := ctr.New(someKey)
	whole := text(60)
	was := bytes.Clone(whole)
	b := whole[:21]
	hidden := mustHide(t, s, 9, b)
	want := xor(was[:21], wanted(t, someKey, 9, 21))
	at := mustAt(t, s, 9, 3, 20)
	if len(hidden) != 21 || !bytes.Equal(hidden, want) || !bytes.Equal(whole, was) {
		t.Fatalf("Hide reads behind the length, or changes what it was given")
	}
	for _, out := range [][]byte{hidden, at} {
		for i := range out[:cap(out)] {
			out[:cap(out)][i] ^= 255
		}
	}
	if !bytes.Equal(whole, was) || !bytes.Equal(mustHide(t, s, 9, b), want) || !bytes.Equal(mustAt(t, s, 9, 3, 20), wanted(t, someKey, 9, 23)[3:]) {
		t.Errorf("what was handed out is kept")
	}
	again := mustHide(t, s, 9, b)
	b[0] ^= 255
	if !bytes.Equal(again, want) {
		t.Errorf("what was handed in is kept")
	}
}

// Rule 7: an answer does not hang on what was asked ahead of it.
func TestOrder(t *testing.T) {
	s := ctr.New(someKey)
	r := rand.New(rand.NewSource(3))
	for range 500 {
		number, from, n := numbers[r.Intn(len(numbers))], r.Intn(300), r.Intn(300)
		want := wanted(t, someKey, number, from+n)
		if !bytes.Equal(mustAt(t, s, number, from, n), want[from:]) {
			t.Fatalf("At(%d, %d, %d) is wrong", number, from, n)
		}
		if b := text(n); !bytes.Equal(mustHide(t, s, number, b), xor(b, want)) {
			t.Fatalf("Hide(%d, %d bytes) is wrong", number, n)
		}
	}
}
