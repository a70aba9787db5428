package aes_test

import (
	cryptoaes "crypto/aes"
	"encoding/hex"
	"math/rand"
	"slices"
	"sync"
	"testing"

	"longline/aes"
	"longline/api"
)

// knownBoxes has the published box of each byte.
const knownBoxes = "637c777bf26b6fc53001672bfed7ab76" +
	"ca82c97dfa5947f0add4a2af9ca472c0" +
	"b7fd9326363ff7cc34a5e5f171d83115" +
	"04c723c31896059a071280e2eb27b275" +
	"09832c1a1b6e5aa0523bd6b329e32f84" +
	"53d100ed20fcb15b6acbbe394a4c58cf" +
	"d0efaafb434d338545f9027f503c9fa8" +
	"51a3408f929d38f5bcb6da2110fff3d2" +
	"cd0c13ec5f974417c4a77e3d645d1973" +
	"60814fdc222a908846eeb814de5e0bdb" +
	"e0323a0a4906245cc2d3ac629195e479" +
	"e7c8376d8dd54ea96c56f4ea657aae08" +
	"ba78252e1ca6b4c6e8dd741f4bbd8b8a" +
	"703eb5664803f60e613557b986c11d9e" +
	"e1f8981169d98e949b1e87e9ce5528df" +
	"8ca1890dbfe6426841992d0fb054bb16"

// knownWords has the published round keys of the key that they begin with.
const knownWords = "2b7e151628aed2a6abf7158809cf4f3c" +
	"a0fafe1788542cb123a339392a6c7605" +
	"f2c295f27a96b9435935807a7359f67f" +
	"3d80477d4716fe3e1e237e446d7a883b" +
	"ef44a541a8525b7fb671253bdb0bad00" +
	"d4d1c6f87c839d87caf2b8bc11f915bc" +
	"6d88a37a110b3efddbf98641ca0093fd" +
	"4e54f70e5f5fc9f384a64fb24ea6dc4f" +
	"ead27321b58dbad2312bf5607f8d292f" +
	"ac7766f319fadc2128d12941575c006e" +
	"d014f9a8c9ee2589e13f0cc8b6630ca6"

func unhex(t *testing.T, s string) []byte {
	t.Helper()
	b, err := hex.DecodeString(s)
	if err != nil {
		t.Fatal(err)
	}
	return b
}

func mustTurn(t *testing.T, c *aes.Cipher, b [16]byte) [16]byte {
	t.Helper()
	turned, e := c.Turn(b)
	if e != api.OK {
		t.Fatalf("Turn(%x): %v", b, e)
	}
	return turned
}

// The rest of this part turns blocks as the document words it, by longer ways than the package's own.

// polynomialProduct multiplies without a byte's bounds, and brings what is above the seventh power down.
func polynomialProduct(a, b byte) byte {
	whole := 0
	for i := range 8 {
		if b>>i&1 == 1 {
			whole ^= int(a) << i
		}
	}
	for i := 14; i >= 8; i-- {
		if whole>>i&1 == 1 {
			whole ^= 1<<i ^ (1<<4|1<<3|1<<1|1)<<(i-8)
		}
	}
	return byte(whole)
}

func wordedBox(b byte) byte {
	v := 0
	for i := range 256 {
		if polynomialProduct(b, byte(i)) == 1 {
			v = i
		}
	}
	box := byte(99)
	for n := range 5 {
		for bit := range 8 {
			box ^= byte(v>>bit&1) << ((bit + n) % 8)
		}
	}
	return box
}

func wordedWords(key api.Key) [44][4]byte {
	var w [44][4]byte
	for i := range w {
		for j := range 4 {
			if i < 4 {
				w[i][j] = key[4*i+j]
				continue
			}
			by := w[i-1][j]
			if i%4 == 0 {
				by = wordedBox(w[i-1][(j+1)%4])
			}
			if i%4 == 0 && j == 0 {
				power := byte(1)
				for range i/4 - 1 {
					power = polynomialProduct(power, 2)
				}
				by ^= power
			}
			w[i][j] = w[i-4][j] ^ by
		}
	}
	return w
}

func wordedTurn(key api.Key, b [16]byte) [16]byte {
	w := wordedWords(key)
	for i := range b {
		b[i] ^= w[i/4][i%4]
	}
	for round := 1; round <= 10; round++ {
		for i := range b {
			b[i] = wordedBox(b[i])
		}
		was := b
		for c := range 4 {
			for r := range 4 {
				b[4*c+r] = was[4*((c+r)%4)+r]
			}
		}
		if round < 10 {
			was = b
			for i := range b {
				b[i] = 0
				for j, by := range []byte{2, 3, 1, 1} {
					b[i] ^= polynomialProduct(was[i/4*4+(i+j)%4], by)
				}
			}
		}
		for i := range b {
			b[i] ^= w[4*round+i/4][i%4]
		}
	}
	return b
}

// edges are keys and blocks of noughts, of ones, of one bit, and some others.
func edges() [][16]byte {
	var l [][16]byte
	l = append(l, [16]byte{})
	var ones [16]byte
	for i := range ones {
		ones[i] = 255
	}
	l = append(l, ones)
	for bit := range 128 {
		var b [16]byte
		b[bit/8] = 1 << (bit % 8)
		l = append(l, b)
	}
	r := rand.New(rand.NewSource(1))
	for range 30 {
		var b [16]byte
		r.Read(b[:])
		l = append(l, b)
	}
	return l
}

// P5.1: the box of each byte.
func TestBox(t *testing.T) {
	known := unhex(t, knownBoxes)
	for i, want := range known {
		b := byte(i)
		if got := aes.Box(b); got != want || got != wordedBox(b) {
			t.Errorf("Box(%d) = %d, want %d, as worded %d", i, got, want, wordedBox(b))
		}
	}
	if len(known) != 256 || aes.Box(0) != 99 || aes.Box(1) != 124 {
		t.Errorf("Box(0) = %d, Box(1) = %d", aes.Box(0), aes.Box(1))
	}
}

// P5.2: boxes are unlike.
func TestBoxesUnlike(t *testing.T) {
	var seen [256]int
	for i := range 256 {
		seen[aes.Box(byte(i))]++
	}
	for b, n := range seen {
		if n != 1 {
			t.Errorf("%d is the box of %d bytes", b, n)
		}
	}
}

// P5.1: the round keys.
func TestWords(t *testing.T) {
	known := unhex(t, knownWords)
	var flat []byte
	for _, w := range aes.New(api.Key(known)).Words() {
		flat = append(flat, w[:]...)
	}
	if !slices.Equal(flat, known) {
		t.Errorf("Words = %x, want %x", flat, known)
	}
	for _, key := range edges() {
		if got, want := aes.New(key).Words(), wordedWords(key); got != want {
			t.Errorf("Words of %x = %x, want %x", key, got, want)
		}
	}
}

// P5.1: published blocks.
func TestKnownTurns(t *testing.T) {
	for _, x := range []struct {
		key, block, want string
	}{
		{"000102030405060708090a0b0c0d0e0f", "00112233445566778899aabbccddeeff", "69c4e0d86a7b0430d8cdb78070b4c55a"},
		{"2b7e151628aed2a6abf7158809cf4f3c", "3243f6a8885a308d313198a2e0370734", "3925841d02dc09fbdc118597196a0b32"},
		{"2b7e151628aed2a6abf7158809cf4f3c", "6bc1bee22e409f96e93d7e117393172a", "3ad77bb40d7a3660a89ecaf32466ef97"},
		{"2b7e151628aed2a6abf7158809cf4f3c", "f69f2445df4f9b17ad2b417be66c3710", "7b0c785e27e8ad3f8223207104725dd4"},
		{"00000000000000000000000000000000", "00000000000000000000000000000000", "66e94bd4ef8a2c3b884cfa59ca342b2e"},
	} {
		c := aes.New(api.Key(unhex(t, x.key)))
		got := mustTurn(t, c, [16]byte(unhex(t, x.block)))
		if hex.EncodeToString(got[:]) != x.want {
			t.Errorf("Turn of %s with %s = %x, want %s", x.block, x.key, got, x.want)
		}
	}
}

// P5.1: each key and block of the edges, by the library's means.
func TestTurn(t *testing.T) {
	for _, key := range edges() {
		c := aes.New(key)
		library, err := cryptoaes.NewCipher(key[:])
		if err != nil {
			t.Fatal(err)
		}
		for _, b := range edges() {
			var want [16]byte
			library.Encrypt(want[:], b[:])
			if got := mustTurn(t, c, b); got != want {
				t.Fatalf("Turn of %x with %x = %x, want %x", b, key, got, want)
			}
		}
	}
}

func TestTurnAsWorded(t *testing.T) {
	r := rand.New(rand.NewSource(2))
	for range 3 {
		var key, b [16]byte
		r.Read(key[:])
		r.Read(b[:])
		if got, want := mustTurn(t, aes.New(key), b), wordedTurn(key, b); got != want {
			t.Errorf("Turn of %x with %x = %x, want %x", b, key, got, want)
		}
	}
}

// P5.2: with one key unlike blocks are turned to unlike ones.
func TestTurnsUnlike(t *testing.T) {
	for _, key := range edges()[:6] {
		c := aes.New(key)
		seen := map[[16]byte][16]byte{}
		for i := range 20000 {
			var b [16]byte
			b[i%16], b[(i+5)%16] = byte(i), byte(i>>8)
			b[15] ^= byte(i >> 4)
			turned := mustTurn(t, c, b)
			if was, ok := seen[turned]; ok && was != b {
				t.Fatalf("%x and %x are both turned to %x", was, b, turned)
			}
			seen[turned] = b
		}
	}
}

// P5.1: how many were turned, of each cipher by itself.
func TestTurns(t *testing.T) {
	a, b := aes.New(api.Key{}), aes.New(api.Key{})
	if a.Turns() != 0 || b.Turns() != 0 {
		t.Errorf("Turns of new ones = %d and %d", a.Turns(), b.Turns())
	}
	for i := range 5 {
		mustTurn(t, a, [16]byte{byte(i)})
		if a.Turns() != i+1 || a.Turns() != i+1 {
			t.Errorf("Turns = %d, want %d", a.Turns(), i+1)
		}
	}
	a.Words()
	aes.Box(7)
	// The same block again is turned again.
	mustTurn(t, a, [16]byte{0})
	if a.Turns() != 6 || b.Turns() != 0 {
		t.Errorf("Turns = %d and %d, want 6 and 0", a.Turns(), b.Turns())
	}
}

// P5.1: of nil, and of one that no call made.
func TestNoCipher(t *testing.T) {
	var none *aes.Cipher
	var zero aes.Cipher
	for _, c := range []*aes.Cipher{none, &zero, new(aes.Cipher)} {
		for range 2 {
			for _, b := range edges()[:3] {
				if turned, e := c.Turn(b); e != api.ErrNil || turned != [16]byte{} {
					t.Errorf("Turn = %x, %v", turned, e)
				}
			}
			if c.Words() != [44][4]byte{} || c.Turns() != 0 {
				t.Errorf("Words = %x, Turns = %d", c.Words(), c.Turns())
			}
		}
	}
}

// Rules 5 and 7: a cipher neither keeps what it was given nor hands out what it has, and turning leaves nothing behind.
func TestMemory(t *testing.T) {
	key, b := api.Key{1, 2, 3}, [16]byte{4, 5, 6}
	c := aes.New(key)
	first := mustTurn(t, c, b)
	w := c.Words()
	for i := range w {
		w[i] = [4]byte{}
	}
	key[0] ^= 255
	for _, other := range edges() {
		mustTurn(t, c, other)
	}
	if got := mustTurn(t, c, b); got != first {
		t.Errorf("Turn = %x, and then %x", first, got)
	}
	if b != [16]byte{4, 5, 6} || c.Words() != wordedWords(api.Key{1, 2, 3}) {
		t.Errorf("what was handed in or out has changed the cipher")
	}
}

// Rule 7: many turn, count and ask at once.
func TestManyAtOnce(t *testing.T) {
	c := aes.New(api.Key{9})
	var want [16]byte
	library, err := cryptoaes.NewCipher([]byte{9, 0, 0, 0, 0, 0, 0, 0, 0, 0, 0, 0, 0, 0, 0, 0})
	if err != nil {
		t.Fatal(err)
	}
	library.Encrypt(want[:], make([]byte, 16))
	var wg sync.WaitGroup
	wrong := make([]int, 8)
	for g := range wrong {
		wg.Go(func() {
			for i := range 500 {
				was := c.Turns()
				turned, e := c.Turn([16]byte{})
				if turned != want || e != api.OK || c.Turns() <= was || aes.Box(byte(i)) == byte(i) {
					wrong[g]++
				}
			}
		})
	}
	wg.Wait()
	for g, n := range wrong {
		if n != 0 {
			t.Errorf("goroutine %d had %d wrong answers", g, n)
		}
	}
	if c.Turns() != 4000 {
		t.Errorf("Turns = %d, want 4000", c.Turns())
	}
}
