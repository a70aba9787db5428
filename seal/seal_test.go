package seal_test

import (
	"bytes"
	cryptoaes "crypto/aes"
	"crypto/cipher"
	"crypto/hmac"
	"crypto/sha256"
	"encoding/binary"
	"encoding/hex"
	"math"
	"math/rand"
	"slices"
	"strings"
	"sync"
	"sync/atomic"
	"testing"

	"longline/api"
	"longline/ctr"
	"longline/mac"
	"longline/seal"
)

var secret = []byte("a secret of both sides")

// nonces are the least and the greatest, and some whose bytes are unlike.
var nonces = []uint64{1, 2, 255, 256, 1 << 32, 0x0102030405060708, 1 << 62, api.MaxNonce - 1, api.MaxNonce}

// lengths are those around a stream's blocks' ends, and the limit.
var lengths = []int{0, 1, 2, 15, 16, 17, 31, 32, 33, 63, 64, 65, 255, 256, 480, 511, api.MaxPlain}

// text is n bytes, always the same ones.
func text(n int) []byte {
	b := make([]byte, n)
	rand.New(rand.NewSource(int64(n))).Read(b)
	return b
}

// marked is b and its mark behind it, by the library's means.
func marked(secret, b []byte) []byte {
	key := derived(secret, "mark")
	h := hmac.New(sha256.New, key)
	h.Write(b)
	return append(bytes.Clone(b), h.Sum(nil)[:16]...)
}

func derived(secret []byte, label string) []byte {
	h := hmac.New(sha256.New, secret)
	h.Write(append([]byte(label), 0, 0))
	return h.Sum(nil)[:16]
}

// wanted is a datagram, by the library's means.
func wanted(t *testing.T, secret []byte, side int, nonce uint64, plain []byte) []byte {
	t.Helper()
	block, err := cryptoaes.NewCipher(derived(secret, "hide"))
	if err != nil {
		t.Fatal(err)
	}
	head := binary.BigEndian.AppendUint64(nil, uint64(side)<<63|nonce)
	first := append(bytes.Clone(head), make([]byte, 8)...)
	hidden := make([]byte, len(plain))
	cipher.NewCTR(block, first).XORKeyStream(hidden, plain)
	return marked(secret, append(head, hidden...))
}

func mustNew(t *testing.T, secret []byte, side int) *seal.Sealer {
	t.Helper()
	s, e := seal.New(secret, side)
	if e != api.OK || s == nil {
		t.Fatalf("New(%q, %d) = %v, %v", secret, side, s, e)
	}
	return s
}

func mustSeal(t *testing.T, s *seal.Sealer, plain []byte) []byte {
	t.Helper()
	b, e := s.Seal(plain)
	if e != api.OK {
		t.Fatalf("Seal of %d bytes: %v", len(plain), e)
	}
	return b
}

func mustSkip(t *testing.T, s *seal.Sealer, next uint64) {
	t.Helper()
	if e := s.Skip(next); e != api.OK || s.Next() != next {
		t.Fatalf("Skip(%d): %v, Next = %d", next, e, s.Next())
	}
}

func wantOpened(t *testing.T, s *seal.Sealer, b []byte, nonce uint64, plain []byte) {
	t.Helper()
	n, got, e := s.Open(b)
	if e != api.OK || n != nonce || !bytes.Equal(got, plain) {
		t.Fatalf("Open of %d bytes = %d, %x, %v, want %d, %x", len(b), n, got, e, nonce, plain)
	}
}

func wantClosed(t *testing.T, s *seal.Sealer, b []byte, want api.Errno) {
	t.Helper()
	if n, got, e := s.Open(b); e != want || n != 0 || len(got) != 0 {
		t.Fatalf("Open of %d bytes = %d, %x, %v, want %v", len(b), n, got, e, want)
	}
}

func wantErrSeal(t *testing.T, s *seal.Sealer, plain []byte, want api.Errno) {
	t.Helper()
	if b, e := s.Seal(plain); e != want || len(b) != 0 {
		t.Fatalf("Seal of %d bytes = %x, %v, want %v", len(plain), b, e, want)
	}
}

// P7.1: secrets of any length but none, and the two sides alone.
func TestNew(t *testing.T) {
	for _, n := range []int{1, 2, 16, 63, 64, 65, 5000} {
		for side := range 2 {
			s := mustNew(t, text(n), side)
			if s.Next() != 1 {
				t.Errorf("Next of a new one = %d", s.Next())
			}
			if got := mustSeal(t, s, []byte("x")); !bytes.Equal(got, wanted(t, text(n), side, 1, []byte("x"))) {
				t.Errorf("a secret of %d bytes, the side %d: %x", n, side, got)
			}
		}
	}
	for _, x := range []struct {
		secret []byte
		side   int
	}{
		{nil, 0}, {nil, 1}, {[]byte{}, 0}, {[]byte{}, 1}, {nil, 2}, {[]byte{}, -1},
		{secret, -1}, {secret, 2}, {secret, 256}, {secret, 1 << 32}, {secret, math.MinInt}, {secret, math.MaxInt},
	} {
		if s, e := seal.New(x.secret, x.side); s != nil || e != api.ErrArg {
			t.Errorf("New(%q, %d) = %v, %v", x.secret, x.side, s, e)
		}
	}
}

// Fixed bytes, which other programs made, so that a datagram of today opens later.
func TestKnownDatagram(t *testing.T) {
	got := hex.EncodeToString(mustSeal(t, mustNew(t, []byte("secret"), 1), []byte("hello")))
	if want := "8000000000000001977aebd4d2849913d185538c4dc44951316a61aec8"; got != want {
		t.Errorf("the datagram is %s, want %s", got, want)
	}
}

// P7.2: datagrams' bytes, and how many there are.
func TestSeal(t *testing.T) {
	if seal.Over != 24 {
		t.Errorf("Over = %d", seal.Over)
	}
	for side := range 2 {
		for _, nonce := range nonces {
			for _, n := range lengths {
				s := mustNew(t, secret, side)
				mustSkip(t, s, nonce)
				b := mustSeal(t, s, text(n))
				if want := wanted(t, secret, side, nonce, text(n)); !bytes.Equal(b, want) || len(b) != n+seal.Over {
					t.Fatalf("the datagram of the side %d, %d and %d bytes = %x, want %x", side, nonce, n, b, want)
				}
			}
		}
	}
	for _, none := range [][]byte{nil, {}} {
		if b := mustSeal(t, mustNew(t, secret, 0), none); len(b) != 24 {
			t.Errorf("a datagram of nothing has %d bytes", len(b))
		}
	}
	if b := mustSeal(t, mustNew(t, secret, 0), []byte("five.")); len(b) != 29 {
		t.Errorf("a datagram of five bytes has %d", len(b))
	}
}

// Words: the stream is that of the side and the nonce together, and the keys are those of hide and mark.
func TestAsWorded(t *testing.T) {
	hideKey, e := mac.Derive(secret, "hide", 0)
	markKey, e2 := mac.Derive(secret, "mark", 0)
	if e != api.OK || e2 != api.OK {
		t.Fatal(e, e2)
	}
	for side := range 2 {
		for _, nonce := range nonces {
			s := mustNew(t, secret, side)
			mustSkip(t, s, nonce)
			b := mustSeal(t, s, text(100))
			hidden, e := ctr.New(hideKey).Hide(uint64(side)<<63|nonce, text(100))
			if e != api.OK || !bytes.Equal(b[8:108], hidden) {
				t.Errorf("the side %d, %d: hidden otherwise", side, nonce)
			}
			if !mac.Right(markKey[:], b[108:], b[:108]) || len(b[108:]) != 16 {
				t.Errorf("the side %d, %d: marked otherwise", side, nonce)
			}
			if int(b[0]>>7) != side {
				t.Errorf("the side %d stands in the first byte as %x", side, b[0])
			}
		}
	}
}

// P7.2: each datagram takes a nonce, one more each time; what is too long takes none.
func TestNoncesRise(t *testing.T) {
	for side := range 2 {
		s := mustNew(t, secret, side)
		for nonce := uint64(1); nonce < 600; nonce++ {
			if s.Next() != nonce {
				t.Fatalf("Next = %d, want %d", s.Next(), nonce)
			}
			plain := text(int(nonce) % (api.MaxPlain + 1))
			if got := mustSeal(t, s, plain); !bytes.Equal(got, wanted(t, secret, side, nonce, plain)) {
				t.Fatalf("the datagram %d = %x", nonce, got)
			}
			wantErrSeal(t, s, make([]byte, api.MaxPlain+1), api.ErrLong)
		}
	}
}

func TestSealTooLong(t *testing.T) {
	s := mustNew(t, secret, 0)
	for _, n := range []int{api.MaxPlain + 1, api.MaxPlain + seal.Over, 65536, 65537, 1 << 20} {
		wantErrSeal(t, s, make([]byte, n), api.ErrLong)
	}
	if s.Next() != 1 {
		t.Errorf("Next = %d behind errors", s.Next())
	}
}

// P7.1: Skip goes on to the next one or any above it, never back.
func TestSkip(t *testing.T) {
	s := mustNew(t, secret, 1)
	next := uint64(1)
	for _, x := range []struct {
		to   uint64
		want api.Errno
	}{
		{0, api.ErrArg}, {1, api.OK}, {1, api.OK}, {2, api.OK}, {1, api.ErrArg}, {0, api.ErrArg}, {2, api.OK}, {1 << 32, api.OK},
		{1<<32 - 1, api.ErrArg}, {api.MaxNonce + 1, api.ErrArg}, {math.MaxUint64, api.ErrArg}, {1 << 63, api.ErrArg},
		{1<<63 | 1<<33, api.ErrArg}, {1<<32 + 1, api.OK}, {api.MaxNonce - 1, api.OK}, {1 << 32, api.ErrArg},
		{api.MaxNonce, api.OK}, {api.MaxNonce, api.OK}, {api.MaxNonce - 1, api.ErrArg}, {api.MaxNonce + 1, api.ErrArg},
	} {
		if e := s.Skip(x.to); e != x.want {
			t.Fatalf("Skip(%d) from %d: %v, want %v", x.to, next, e, x.want)
		}
		if x.want == api.OK {
			next = x.to
		}
		if s.Next() != next {
			t.Fatalf("Next behind Skip(%d) = %d, want %d", x.to, s.Next(), next)
		}
	}
	s = mustNew(t, secret, 1)
	mustSkip(t, s, 77)
	if got := mustSeal(t, s, nil); !bytes.Equal(got, wanted(t, secret, 1, 77, nil)) || s.Next() != 78 {
		t.Errorf("behind Skip: %x, Next = %d", got, s.Next())
	}
	if e := s.Skip(77); e != api.ErrArg || s.Next() != 78 {
		t.Errorf("Skip to a nonce that is used: %v, Next = %d", e, s.Next())
	}
}

// P7.5: at the last nonce it ends, and stays so.
func TestLastNonce(t *testing.T) {
	for side := range 2 {
		s, other := mustNew(t, secret, side), mustNew(t, secret, 1-side)
		mustSkip(t, s, api.MaxNonce-1)
		for _, nonce := range []uint64{api.MaxNonce - 1, api.MaxNonce} {
			b := mustSeal(t, s, []byte("last"))
			if !bytes.Equal(b, wanted(t, secret, side, nonce, []byte("last"))) {
				t.Errorf("the datagram %d = %x", nonce, b)
			}
			wantOpened(t, other, b, nonce, []byte("last"))
		}
		for range 5 {
			if s.Next() != 0 {
				t.Fatalf("Next behind the last one = %d", s.Next())
			}
			for _, n := range []int{0, 1, api.MaxPlain} {
				wantErrSeal(t, s, text(n), api.ErrOver)
			}
			wantErrSeal(t, s, text(api.MaxPlain+1), api.ErrLong)
			for _, next := range []uint64{0, 1, 2, api.MaxNonce, api.MaxNonce + 1, api.MaxNonce + 2, math.MaxUint64} {
				if e := s.Skip(next); e != api.ErrArg {
					t.Fatalf("Skip(%d) behind the last one: %v", next, e)
				}
			}
		}
		// It still reads.
		wantOpened(t, s, mustSeal(t, other, []byte("x")), 1, []byte("x"))
	}
}

// P7.3 and P7.4: there and back, on both sides, at all nonces and lengths.
func TestThereAndBack(t *testing.T) {
	for side := range 2 {
		s, other := mustNew(t, secret, side), mustNew(t, secret, 1-side)
		for _, nonce := range nonces {
			for _, n := range lengths {
				again := mustNew(t, secret, side)
				mustSkip(t, again, nonce)
				wantOpened(t, other, mustSeal(t, again, text(n)), nonce, text(n))
			}
		}
		for n := range api.MaxPlain + 1 {
			wantOpened(t, other, mustSeal(t, s, text(n)), uint64(n+1), text(n))
		}
		if other.Next() != 1 {
			t.Errorf("Open takes nonces: Next = %d", other.Next())
		}
	}
}

// P7.4: in whatever order they come, and however often.
func TestAnyOrder(t *testing.T) {
	s, other := mustNew(t, secret, 0), mustNew(t, secret, 1)
	type sent struct {
		nonce        uint64
		plain, bytes []byte
	}
	var all []sent
	r := rand.New(rand.NewSource(1))
	for range 200 {
		x := sent{nonce: s.Next(), plain: text(r.Intn(api.MaxPlain + 1))}
		x.bytes = mustSeal(t, s, x.plain)
		all = append(all, x, x)
		if r.Intn(3) == 0 {
			mustSkip(t, s, s.Next()+uint64(r.Intn(1000)))
		}
	}
	r.Shuffle(len(all), func(i, j int) { all[i], all[j] = all[j], all[i] })
	for _, x := range all {
		wantOpened(t, other, x.bytes, x.nonce, x.plain)
	}
}

// P7.3: the number of bytes is looked at first.
func TestOpenSizes(t *testing.T) {
	s := mustNew(t, secret, 0)
	for n := range seal.Over {
		wantClosed(t, s, make([]byte, n), api.ErrShort)
		wantClosed(t, s, wanted(t, secret, 1, 1, nil)[:n], api.ErrShort)
	}
	wantClosed(t, s, nil, api.ErrShort)
	// Marked rightly, but too short or too long.
	wantClosed(t, s, marked(secret, []byte{128, 0, 0, 0, 0, 0, 1}), api.ErrShort)
	wantClosed(t, s, wanted(t, secret, 1, 1, text(api.MaxPlain+1)), api.ErrLong)
	wantClosed(t, s, wanted(t, secret, 0, 1, text(api.MaxPlain+1)), api.ErrLong)
	for _, n := range []int{api.MaxPlain + seal.Over + 1, 65536 + seal.Over, 1 << 20} {
		wantClosed(t, s, make([]byte, n), api.ErrLong)
	}
	for _, n := range []int{seal.Over, seal.Over + 1, api.MaxPlain + seal.Over - 1, api.MaxPlain + seal.Over} {
		wantClosed(t, s, make([]byte, n), api.ErrTag)
		wantOpened(t, s, wanted(t, secret, 1, 9, text(n-seal.Over)), 9, text(n-seal.Over))
	}
}

// P7.4: any bit that is turned, in the head, in what is hidden, or in the mark, is told.
func TestTurnedBits(t *testing.T) {
	for _, n := range []int{0, 1, 16, 40, api.MaxPlain} {
		for side := range 2 {
			s := mustNew(t, secret, 1-side)
			b := wanted(t, secret, side, 5, text(n))
			for i := range 8 * len(b) {
				if n > 40 && i > 200 && i < 8*len(b)-200 && i%37 != 0 {
					continue
				}
				b[i/8] ^= 1 << (i % 8)
				wantClosed(t, s, b, api.ErrTag)
				b[i/8] ^= 1 << (i % 8)
			}
			wantOpened(t, s, b, 5, text(n))
		}
	}
}

// What is cut, longer, moved, or put together of two datagrams does not open.
func TestOtherBytes(t *testing.T) {
	s := mustNew(t, secret, 1)
	a, b := wanted(t, secret, 0, 3, text(60)), wanted(t, secret, 0, 4, text(61))
	for n := seal.Over; n < len(a); n++ {
		wantClosed(t, s, a[:n], api.ErrTag)
		wantClosed(t, s, a[len(a)-n:], api.ErrTag)
	}
	wantClosed(t, s, append(bytes.Clone(a), 0), api.ErrTag)
	wantClosed(t, s, append([]byte{0}, a...), api.ErrTag)
	wantClosed(t, s, slices.Concat(b[:8], a[8:]), api.ErrTag)
	wantClosed(t, s, slices.Concat(a[:68], b[69:]), api.ErrTag)
	wantClosed(t, s, slices.Concat(a, b), api.ErrTag)
	reversed := bytes.Clone(a)
	slices.Reverse(reversed)
	wantClosed(t, s, reversed, api.ErrTag)
}

// Who has another secret neither opens, nor is opened.
func TestOtherSecrets(t *testing.T) {
	s := mustNew(t, secret, 1)
	for _, other := range []string{"a", "a secret of both side", "a secret of both sidet", "A secret of both sides", "a secret of both sides1", strings.Repeat("s", 100)} {
		o := mustNew(t, []byte(other), 0)
		wantClosed(t, s, mustSeal(t, o, []byte("x")), api.ErrTag)
		wantClosed(t, o, wanted(t, secret, 1, 1, []byte("x")), api.ErrTag)
		// Rightly marked with its mark's key, but hidden with another one: who marks may say anything.
		n, got, e := s.Open(marked(secret, wanted(t, []byte(other), 0, 7, text(40))[:48]))
		if e != api.OK || n != 7 || bytes.Equal(got, text(40)) {
			t.Errorf("hidden with another key: %d, %x, %v", n, got, e)
		}
	}
}

// P7.3: its own side, and the nonce 0; but the mark is looked at ahead of them.
func TestOpenSides(t *testing.T) {
	for side := range 2 {
		s := mustNew(t, secret, side)
		for _, n := range []int{0, 1, 40, api.MaxPlain} {
			for _, nonce := range append([]uint64{0}, nonces...) {
				own := wanted(t, secret, side, nonce, text(n))
				wantClosed(t, s, own, api.ErrSide)
				own[len(own)-1] ^= 1
				wantClosed(t, s, own, api.ErrTag)
			}
			none := wanted(t, secret, 1-side, 0, text(n))
			wantClosed(t, s, none, api.ErrSide)
			none[0] ^= 128
			wantClosed(t, s, none, api.ErrTag)
		}
		wantClosed(t, s, mustSeal(t, s, []byte("mine")), api.ErrSide)
		if s.Next() != 2 {
			t.Errorf("Next = %d behind errors", s.Next())
		}
	}
}

// P7.1: of nil, and of one that no call made; ErrNil is the first of all errors.
func TestNoSealer(t *testing.T) {
	var none *seal.Sealer
	var zero seal.Sealer
	held := struct{ seal.Sealer }{}
	for i, s := range []*seal.Sealer{none, &zero, new(seal.Sealer), {}, &held.Sealer} {
		for range 2 {
			if s.Next() != 0 {
				t.Errorf("%d: Next = %d", i, s.Next())
			}
			for _, next := range []uint64{0, 1, 2, api.MaxNonce, api.MaxNonce + 1, math.MaxUint64} {
				if e := s.Skip(next); e != api.ErrNil {
					t.Errorf("%d: Skip(%d): %v", i, next, e)
				}
			}
			for _, b := range [][]byte{nil, {}, {1}, text(24), text(api.MaxPlain + 1), text(1000), wanted(t, secret, 1, 1, nil)} {
				wantErrSeal(t, s, b, api.ErrNil)
				wantClosed(t, s, b, api.ErrNil)
			}
		}
	}
}

// Rules 4 and 5: what is handed in is not changed and not kept, what lies behind it is left alone, and what is handed
// out is new.
func TestMemory(t *testing.T) {
	whole := text(300)
	was := bytes.Clone(whole)
	s := mustNew(t, whole[:20], 0)
	other := mustNew(t, whole[:20:20], 1)
	b := mustSeal(t, s, whole[30:60])
	if !bytes.Equal(whole, was) || !bytes.Equal(b, wanted(t, was[:20], 0, 1, was[30:60])) {
		t.Fatalf("Seal reads behind a length, or changes what it was given")
	}
	for i := range whole {
		whole[i] ^= 255
	}
	if !bytes.Equal(b, wanted(t, was[:20], 0, 1, was[30:60])) {
		t.Errorf("the plain bytes are kept")
	}
	if again := mustSeal(t, s, was[30:60]); !bytes.Equal(again, wanted(t, was[:20], 0, 2, was[30:60])) {
		t.Errorf("the secret is kept")
	}
	roomy := append(bytes.Clone(b), 1, 2, 3)
	given := bytes.Clone(roomy)
	_, plain, e := other.Open(roomy[:len(b)])
	if e != api.OK || !bytes.Equal(plain, was[30:60]) || !bytes.Equal(roomy, given) {
		t.Fatalf("Open reads behind a length, or changes what it was given: %x, %v", plain, e)
	}
	wantClosed(t, other, roomy[:len(b)-1], api.ErrTag)
	for i := range plain[:cap(plain)] {
		plain[:cap(plain)][i] ^= 255
	}
	if !bytes.Equal(roomy, given) {
		t.Errorf("Open hands out what it was given")
	}
	_, plain, _ = other.Open(roomy[:len(b)])
	for i := range roomy {
		roomy[i] ^= 255
	}
	if !bytes.Equal(plain, was[30:60]) {
		t.Errorf("Open keeps what it was given")
	}
	for i := range b[:cap(b)] {
		b[:cap(b)][i] ^= 255
	}
	if got := mustSeal(t, s, was[30:60]); !bytes.Equal(got, wanted(t, was[:20], 0, 3, was[30:60])) {
		t.Errorf("what was handed out is kept")
	}
}

// Sealers side by side have nothing in common.
func TestSideBySide(t *testing.T) {
	a, b := mustNew(t, secret, 0), mustNew(t, secret, 0)
	mustSkip(t, a, 50)
	mustSeal(t, a, nil)
	if a.Next() != 51 || b.Next() != 1 {
		t.Errorf("Next = %d and %d, want 51 and 1", a.Next(), b.Next())
	}
	if got := mustSeal(t, b, nil); !bytes.Equal(got, wanted(t, secret, 0, 1, nil)) {
		t.Errorf("another one's nonces: %x", got)
	}
}

// nonceOf is a datagram's nonce, as it stands in its head.
func nonceOf(b []byte) uint64 { return binary.BigEndian.Uint64(b) & api.MaxNonce }

// P7.5: no nonce is used twice, though many seal, skip and ask at once.
func TestManyAtOnce(t *testing.T) {
	const many, times = 8, 300
	s, other := mustNew(t, secret, 0), mustNew(t, secret, 1)
	var wg sync.WaitGroup
	sealed := make([][][]byte, many)
	wrong := make([]int, many)
	for g := range many {
		wg.Go(func() {
			for i := range times {
				before := s.Next()
				b, e := s.Seal([]byte{byte(g), byte(i)})
				if e != api.OK || nonceOf(b) < before || s.Next() <= nonceOf(b) {
					wrong[g]++
					continue
				}
				n, plain, e := other.Open(b)
				if e != api.OK || n != nonceOf(b) || !bytes.Equal(plain, []byte{byte(g), byte(i)}) {
					wrong[g]++
				}
				sealed[g] = append(sealed[g], b)
				if i%10 == 0 {
					s.Skip(s.Next() + 3)
				}
			}
		})
	}
	wg.Wait()
	seen := map[uint64]int{}
	for g := range many {
		last := uint64(0)
		for _, b := range sealed[g] {
			n := nonceOf(b)
			if seen[n]++; seen[n] > 1 || n <= last {
				t.Fatalf("the nonce %d is used twice, or falls behind %d", n, last)
			}
			last = n
		}
		if wrong[g] != 0 {
			t.Errorf("the goroutine %d had %d wrong answers", g, wrong[g])
		}
	}
	if len(seen) != many*times {
		t.Errorf("%d nonces, want %d", len(seen), many*times)
	}
}

// Without a Skip among them as many nonces are taken as datagrams were made.
func TestManyCountAtOnce(t *testing.T) {
	const many, times = 8, 300
	s := mustNew(t, secret, 1)
	var wg sync.WaitGroup
	for range many {
		wg.Go(func() {
			for range times {
				s.Seal(nil)
			}
		})
	}
	wg.Wait()
	if s.Next() != many*times+1 {
		t.Errorf("Next = %d, want %d", s.Next(), many*times+1)
	}
}

// Skips that go nowhere never bring a nonce back that another one took meanwhile.
func TestSkipWhileOthersSeal(t *testing.T) {
	const many, times = 4, 2000
	s := mustNew(t, secret, 0)
	var sealing, skipping sync.WaitGroup
	var ended atomic.Bool
	for range many {
		skipping.Go(func() {
			for !ended.Load() {
				s.Skip(s.Next())
			}
		})
	}
	taken := make([][]uint64, many)
	for g := range many {
		sealing.Go(func() {
			for range times {
				b, _ := s.Seal(nil)
				taken[g] = append(taken[g], nonceOf(b))
			}
		})
	}
	sealing.Wait()
	ended.Store(true)
	skipping.Wait()
	all := slices.Concat(taken...)
	slices.Sort(all)
	for i, n := range all {
		if n != uint64(i+1) {
			t.Fatalf("the nonce %d is the one number %d", n, i+1)
		}
	}
	if s.Next() != many*times+1 {
		t.Errorf("Next = %d, want %d", s.Next(), many*times+1)
	}
}

// At the end, too, each nonce that is left goes to one alone, and to those that come too late none.
func TestManyAtTheEnd(t *testing.T) {
	const many, times, rounds = 8, 6, 500
	for round := range rounds {
		left := uint64(round%5 + 1)
		s := mustNew(t, secret, 1)
		mustSkip(t, s, api.MaxNonce-left+1)
		var ready, wg sync.WaitGroup
		ready.Add(many)
		taken := make([][]uint64, many)
		for g := range many {
			wg.Go(func() {
				ready.Done()
				ready.Wait()
				for range times {
					b, e := s.Seal(nil)
					if e == api.OK {
						taken[g] = append(taken[g], nonceOf(b))
					} else if e != api.ErrOver || len(b) != 0 || s.Next() != 0 {
						t.Errorf("Seal at the end = %x, %v, Next = %d", b, e, s.Next())
					}
				}
			})
		}
		wg.Wait()
		all := slices.Concat(taken...)
		slices.Sort(all)
		for i, n := range all {
			if n != api.MaxNonce-left+1+uint64(i) {
				t.Fatalf("with %d left: %v", left, all)
			}
		}
		if uint64(len(all)) != left || s.Next() != 0 || s.Skip(api.MaxNonce) != api.ErrArg {
			t.Fatalf("with %d left: %v, Next = %d", left, all, s.Next())
		}
	}
}

// P1: no call panics, whatever it is given; with an error every other result is zero.
func TestAnything(t *testing.T) {
	r := rand.New(rand.NewSource(2))
	s := mustNew(t, secret, 1)
	for range 5000 {
		b := make([]byte, r.Intn(600))
		r.Read(b)
		if n, plain, e := s.Open(b); e == api.OK || n != 0 || len(plain) != 0 {
			t.Fatalf("Open(%x) = %d, %x, %v", b, n, plain, e)
		}
		if d, e := s.Seal(b); (e == api.OK) != (len(b) <= api.MaxPlain) || e != api.OK && len(d) != 0 {
			t.Fatalf("Seal of %d bytes: %v", len(b), e)
		}
		was, next := s.Next(), r.Uint64()>>r.Intn(64)
		// Not up to the last ones, so that it goes on.
		if next > 1<<62 && next <= api.MaxNonce {
			continue
		}
		if e := s.Skip(next); (e == api.OK) != (next >= was && next <= api.MaxNonce) {
			t.Fatalf("Skip(%d) from %d: %v", next, was, e)
		}
		if s.Next() < was {
			t.Fatalf("Next falls from %d to %d", was, s.Next())
		}
	}
}
