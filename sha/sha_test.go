package sha_test

import (
	"bytes"
	"crypto/sha256"
	"encoding/hex"
	"math/big"
	"math/rand"
	"strings"
	"testing"

	"longline/api"
	"longline/sha"
)

// edges are the lengths around which a text's filling changes, and some longer ones.
var edges = []int{0, 1, 54, 55, 56, 57, 62, 63, 64, 65, 118, 119, 120, 127, 128, 129, 183, 184, 191, 192, 193, 1000, 4096}

// text is n bytes, always the same ones.
func text(n int) []byte {
	b := make([]byte, n)
	rand.New(rand.NewSource(int64(n))).Read(b)
	return b
}

func mustSum(t *testing.T, s *sha.Sha) api.Sum {
	t.Helper()
	sum, e := s.Sum()
	if e != api.OK {
		t.Fatalf("Sum: %v", e)
	}
	return sum
}

func mustAdd(t *testing.T, s *sha.Sha, b []byte) {
	t.Helper()
	if e := s.Add(b); e != api.OK {
		t.Fatalf("Add: %v", e)
	}
}

func TestKnownSums(t *testing.T) {
	for _, x := range []struct {
		text, want string
	}{
		{"", "e3b0c44298fc1c149afbf4c8996fb92427ae41e4649b934ca495991b7852b855"},
		{"abc", "ba7816bf8f01cfea414140de5dae2223b00361a396177a9cb410ff61f20015ad"},
		{"abcdbcdecdefdefgefghfghighijhijkijkljklmklmnlmnomnopnopq", "248d6a61d20638b8e5c026930c3e6039a33ce45964ff2167f6ecedd419db06c1"},
		{"abcdefghbcdefghicdefghijdefghijkefghijklfghijklmghijklmnhijklmnoijklmnopjklmnopqklmnopqrlmnopqrsmnopqrstnopqrstu", "cf5b16a778af8380036ce59e7b0492370b249b11e8f07a51afac45037afee9d1"},
		{strings.Repeat("a", 1000000), "cdc76e5c9914fb9281a1c7e284d73e67f1809a48a497200e046d39ccc7112cd0"},
	} {
		sum := sha.Of([]byte(x.text))
		if got := hex.EncodeToString(sum[:]); got != x.want {
			t.Errorf("Of %d bytes = %s, want %s", len(x.text), got, x.want)
		}
	}
}

// rootBits is the first 32 bits behind the point of the root of v, of degree 2 or 3.
func rootBits(v int64, degree int64) uint32 {
	whole := new(big.Int).Lsh(big.NewInt(v), uint(32*degree))
	low, high := big.NewInt(0), new(big.Int).Lsh(big.NewInt(1), 40)
	for {
		middle := new(big.Int).Add(low, high)
		middle.Rsh(middle, 1)
		if middle.Cmp(low) == 0 {
			return uint32(low.Uint64())
		}
		if new(big.Int).Exp(middle, big.NewInt(degree), nil).Cmp(whole) > 0 {
			high = middle
		} else {
			low = middle
		}
	}
}

func primes(n int) []int64 {
	var l []int64
	for v := int64(2); len(l) < n; v++ {
		if big.NewInt(v).ProbablyPrime(20) {
			l = append(l, v)
		}
	}
	return l
}

// asWorded is the sum as the document words it, with constants made of the primes' roots.
func asWorded(b []byte) api.Sum {
	turned := func(v uint32, n int) uint32 { return v>>n | v<<(32-n) }
	var constants [64]uint32
	for i, p := range primes(64) {
		constants[i] = rootBits(p, 3)
	}
	var state [8]uint32
	for i, p := range primes(8) {
		state[i] = rootBits(p, 2)
	}
	full := append(bytes.Clone(b), 128)
	for len(full)%64 != 56 {
		full = append(full, 0)
	}
	for i := 7; i >= 0; i-- {
		full = append(full, byte(uint64(len(b))*8>>(8*i)))
	}
	for ; len(full) > 0; full = full[64:] {
		var w []uint32
		for i := 0; i < 64; i += 4 {
			w = append(w, uint32(full[i])<<24|uint32(full[i+1])<<16|uint32(full[i+2])<<8|uint32(full[i+3]))
		}
		for i := 16; i < 64; i++ {
			x, y := w[i-15], w[i-2]
			w = append(w, w[i-16]+w[i-7]+(turned(x, 7)^turned(x, 18)^x>>3)+(turned(y, 17)^turned(y, 19)^y>>10))
		}
		v := state
		for i := range 64 {
			a, b, c, e, f, g := v[0], v[1], v[2], v[4], v[5], v[6]
			t := v[7] + (turned(e, 6) ^ turned(e, 11) ^ turned(e, 25)) + (e&f ^ ^e&g) + constants[i] + w[i]
			u := (turned(a, 2) ^ turned(a, 13) ^ turned(a, 22)) + (a&b ^ a&c ^ b&c)
			v = [8]uint32{t + u, a, b, c, v[3] + t, e, f, g}
		}
		for i := range state {
			state[i] += v[i]
		}
	}
	var sum api.Sum
	for i := range sum {
		sum[i] = byte(state[i/4] >> (24 - 8*(i%4)))
	}
	return sum
}

func TestAsWorded(t *testing.T) {
	for _, n := range edges {
		if b := text(n); sha.Of(b) != asWorded(b) {
			t.Errorf("Of %d bytes = %x, want %x", n, sha.Of(b), asWorded(b))
		}
	}
}

// P3.1: of each length from none to some blocks, at Of and at a Sha.
func TestLengths(t *testing.T) {
	lengths := []int{1000, 4095, 4096, 4097, 65535, 65536, 65537}
	for n := range 400 {
		lengths = append(lengths, n)
	}
	for _, n := range lengths {
		for _, b := range [][]byte{text(n), make([]byte, n), bytes.Repeat([]byte{255}, n), bytes.Repeat([]byte{128}, n)} {
			want := api.Sum(sha256.Sum256(b))
			if got := sha.Of(b); got != want {
				t.Fatalf("Of %d bytes = %x, want %x", n, got, want)
			}
			s := sha.New()
			mustAdd(t, s, b)
			if got := mustSum(t, s); got != want || s.Len() != n {
				t.Fatalf("Sum of %d bytes = %x, want %x; Len = %d", n, got, want, s.Len())
			}
		}
	}
}

func TestNothing(t *testing.T) {
	want := api.Sum(sha256.Sum256(nil))
	for name, got := range map[string]api.Sum{
		"no part":          sha.Of(),
		"no list":          sha.Of([][]byte(nil)...),
		"an empty list":    sha.Of([][]byte{}...),
		"a part nil":       sha.Of(nil),
		"an empty part":    sha.Of([]byte{}),
		"many empty parts": sha.Of(nil, []byte{}, nil, nil),
		"a new Sha":        mustSum(t, sha.New()),
	} {
		if got != want {
			t.Errorf("of %s: %x, want %x", name, got, want)
		}
	}
	s := sha.New()
	if s == nil || s.Len() != 0 {
		t.Fatalf("New: %v", s)
	}
	mustAdd(t, s, nil)
	mustAdd(t, s, []byte{})
	if got := mustSum(t, s); got != want || s.Len() != 0 {
		t.Errorf("behind nothing added: %x, want %x; Len = %d", got, want, s.Len())
	}
}

// P3.2: cut in two at each place.
func TestTwoPieces(t *testing.T) {
	for _, n := range edges {
		if n > 200 {
			continue
		}
		b := text(n)
		want := api.Sum(sha256.Sum256(b))
		for cut := range n + 1 {
			if got := sha.Of(b[:cut], b[cut:]); got != want {
				t.Fatalf("Of %d bytes cut at %d = %x, want %x", n, cut, got, want)
			}
			s := sha.New()
			mustAdd(t, s, b[:cut])
			mustAdd(t, s, b[cut:])
			if got := mustSum(t, s); got != want || s.Len() != n {
				t.Fatalf("%d bytes cut at %d: %x, want %x; Len = %d", n, cut, got, want, s.Len())
			}
		}
	}
}

// pieces cuts b at places that r chooses; some pieces are empty.
func pieces(r *rand.Rand, b []byte, most int) [][]byte {
	var l [][]byte
	for len(b) > 0 {
		n := min(r.Intn(most+1), len(b))
		l = append(l, b[:n])
		b = b[n:]
		if r.Intn(4) == 0 {
			l = append(l, nil, []byte{})
		}
	}
	return l
}

// P3.2: in whatever pieces, also empty ones and whole blocks; what was asked between two changes nothing.
func TestPieces(t *testing.T) {
	r := rand.New(rand.NewSource(1))
	for _, n := range append([]int{20000}, edges...) {
		b := text(n)
		want := api.Sum(sha256.Sum256(b))
		for _, most := range []int{1, 2, 3, 55, 56, 63, 64, 65, 128, 300} {
			l := pieces(r, b, most)
			if got := sha.Of(l...); got != want {
				t.Fatalf("Of %d bytes in %d pieces = %x, want %x", n, len(l), got, want)
			}
			s := sha.New()
			at := 0
			for _, p := range l {
				mustAdd(t, s, p)
				at += len(p)
				if s.Len() != at {
					t.Fatalf("Len = %d, want %d", s.Len(), at)
				}
				if n > 1000 {
					continue
				}
				if got := mustSum(t, s); got != api.Sum(sha256.Sum256(b[:at])) {
					t.Fatalf("Sum behind %d of %d bytes is %x", at, n, got)
				}
			}
			if got := mustSum(t, s); got != want || mustSum(t, s) != want || s.Len() != n {
				t.Fatalf("%d bytes in %d pieces: %x, want %x; Len = %d", n, len(l), got, want, s.Len())
			}
		}
	}
}

// How many bits there were needs more than four bytes here.
func TestManyBits(t *testing.T) {
	if testing.Short() {
		t.Skip("sums 512 MiB")
	}
	const times = 512
	b := text(1 << 20)
	s, want := sha.New(), sha256.New()
	for range times {
		mustAdd(t, s, b)
		want.Write(b)
	}
	mustAdd(t, s, []byte("abc"))
	want.Write([]byte("abc"))
	if got := mustSum(t, s); !bytes.Equal(got[:], want.Sum(nil)) || s.Len() != times<<20+3 {
		t.Errorf("%d bytes have %x, want %x", s.Len(), got, want.Sum(nil))
	}
}

// A Sha that is nil, or that no call made, answers ErrNil and noughts, and stays what it is.
func TestNoSha(t *testing.T) {
	var zero sha.Sha
	held := struct{ sha.Sha }{}
	for name, s := range map[string]*sha.Sha{
		"nil": nil, "zero": &zero, "new": new(sha.Sha), "literal": {}, "embedded": &held.Sha,
	} {
		for range 2 {
			for _, b := range [][]byte{nil, {}, {1}, text(64), text(1000)} {
				if e := s.Add(b); e != api.ErrNil {
					t.Errorf("%s: Add of %d bytes: %v", name, len(b), e)
				}
				if sum, e := s.Sum(); e != api.ErrNil || sum != (api.Sum{}) {
					t.Errorf("%s: Sum = %x, %v", name, sum, e)
				}
				if s.Len() != 0 {
					t.Errorf("%s: Len = %d", name, s.Len())
				}
			}
		}
	}
	if zero != (sha.Sha{}) {
		t.Errorf("a Sha that no call made has changed")
	}
}

// Sums that go on side by side have nothing in common.
func TestSideBySide(t *testing.T) {
	a, b := sha.New(), sha.New()
	mustAdd(t, a, text(70))
	mustAdd(t, b, []byte("b"))
	sha.Of(text(100))
	mustAdd(t, a, text(60))
	copied := *a
	mustAdd(t, a, []byte("more"))
	if got := mustSum(t, a); got != sha.Of(text(70), text(60), []byte("more")) || a.Len() != 134 {
		t.Errorf("a: %x, Len %d", got, a.Len())
	}
	if got := mustSum(t, b); got != sha.Of([]byte("b")) || b.Len() != 1 {
		t.Errorf("b: %x, Len %d", got, b.Len())
	}
	if got := mustSum(t, &copied); got != sha.Of(text(70), text(60)) || copied.Len() != 130 {
		t.Errorf("a copy: %x, Len %d", got, copied.Len())
	}
}

// What is handed in is neither changed nor kept, and what lies behind a length is left alone.
func TestMemory(t *testing.T) {
	whole := text(200)
	was := bytes.Clone(whole)
	parts := [][]byte{whole[:60], whole[60:70], whole[70:70], whole[100:200]}
	want := api.Sum(sha256.Sum256(was[:70]))
	if got := sha.Of(parts[:3]...); got != want {
		t.Errorf("Of reads behind a length: %x, want %x", got, want)
	}
	s := sha.New()
	for _, p := range parts[:3] {
		mustAdd(t, s, p)
	}
	mustSum(t, s)
	if !bytes.Equal(whole, was) || &parts[3][0] != &whole[100] || len(parts[3]) != 100 {
		t.Errorf("what was handed in has changed")
	}
	for i := range whole {
		whole[i] ^= 255
	}
	sum := mustSum(t, s)
	if sum != want {
		t.Errorf("what was added is kept: %x, want %x", sum, want)
	}
	sum[0] ^= 255
	if mustSum(t, s) != want {
		t.Errorf("what was handed out is kept")
	}
}

// One bit turned anywhere turns the sum, and so does a byte more or less.
func TestUnlike(t *testing.T) {
	for _, n := range []int{1, 55, 56, 64, 65, 130} {
		b := text(n)
		was := sha.Of(b)
		for i := range 8 * n {
			b[i/8] ^= 1 << (i % 8)
			if sha.Of(b) == was {
				t.Fatalf("%d bytes: the bit %d, turned, doesn't turn the sum", n, i)
			}
			b[i/8] ^= 1 << (i % 8)
		}
		if sha.Of(b, []byte{0}) == was || sha.Of(b, []byte{128}) == was || sha.Of(b[:n-1]) == was {
			t.Errorf("%d bytes have the sum of more or fewer", n)
		}
	}
}
