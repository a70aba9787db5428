package mac_test

import (
	"bytes"
	"crypto/hmac"
	"crypto/sha256"
	"encoding/hex"
	"math"
	"math/rand"
	"strings"
	"testing"
	"time"

	"longline/api"
	"longline/mac"
	"longline/sha"
)

// text is n bytes, always the same ones.
func text(n int) []byte {
	b := make([]byte, n)
	rand.New(rand.NewSource(int64(n))).Read(b)
	return b
}

// keySizes are those around which a key is filled up or summed.
var keySizes = []int{0, 1, 16, 31, 32, 33, 63, 64, 65, 66, 127, 128, 129, 1000}

// wanted is the mark, by the library's means.
func wanted(key []byte, parts ...[]byte) api.Sum {
	h := hmac.New(sha256.New, key)
	for _, b := range parts {
		h.Write(b)
	}
	return api.Sum(h.Sum(nil))
}

// asWorded is the mark as the document words it.
func asWorded(key, b []byte) api.Sum {
	if len(key) > 64 {
		sum := sha256.Sum256(key)
		key = sum[:]
	}
	inner, outer := make([]byte, 64), make([]byte, 64)
	copy(inner, key)
	copy(outer, key)
	for i := range 64 {
		inner[i] ^= 54
		outer[i] ^= 92
	}
	within := sha256.Sum256(append(inner, b...))
	return sha256.Sum256(append(outer, within[:]...))
}

func TestKnownMarks(t *testing.T) {
	for _, x := range []struct {
		key, text, want string
	}{
		{strings.Repeat("\x0b", 20), "Hi There", "b0344c61d8db38535ca8afceaf0bf12b881dc200c9833da726e9376c2e32cff7"},
		{"Jefe", "what do ya want for nothing?", "5bdcc146bf60754e6a042426089575c75a003f089d2739839dec58b964ec3843"},
		{strings.Repeat("\xaa", 20), strings.Repeat("\xdd", 50), "773ea91e36800e46854db8ebd09181a72959098b3ef8c122d9635514ced565fe"},
		{strings.Repeat("\xaa", 131), "Test Using Larger Than Block-Size Key - Hash Key First", "60e431591ee0b67f0d8a26aacbf5b77f8e0bc6213728c5140546040f0ee37f54"},
		{"", "", "b613679a0814d9ec772f95d778c35fc5ff1697c493715653c6c712144292c5ad"},
	} {
		sum := mac.Mark([]byte(x.key), []byte(x.text))
		if got := hex.EncodeToString(sum[:]); got != x.want {
			t.Errorf("Mark(%x, %q) = %s, want %s", x.key, x.text, got, x.want)
		}
	}
}

// P4.1: keys of each size, with texts of many.
func TestMark(t *testing.T) {
	for k := range 140 {
		key := text(k)
		for _, n := range []int{0, 1, 55, 56, 63, 64, 65, 500} {
			b := text(n + 7)[7:]
			got := mac.Mark(key, b)
			if got != wanted(key, b) || got != asWorded(key, b) {
				t.Fatalf("Mark of %d bytes with a key of %d = %x, want %x", n, k, got, wanted(key, b))
			}
		}
	}
	long := text(5000)
	if got := mac.Mark(long, long, long); got != wanted(long, long, long) {
		t.Errorf("Mark with a key of 5000 bytes = %x", got)
	}
}

func TestMarkOfNothing(t *testing.T) {
	for _, k := range keySizes {
		key := text(k)
		want := wanted(key)
		for _, parts := range [][][]byte{nil, {}, {nil}, {{}}, {nil, {}, nil}} {
			if got := mac.Mark(key, parts...); got != want {
				t.Errorf("Mark of %d empty parts with a key of %d = %x, want %x", len(parts), k, got, want)
			}
		}
	}
	if mac.Mark(nil) != mac.Mark([]byte{}) || mac.Mark(nil, []byte("a")) != wanted(nil, []byte("a")) {
		t.Errorf("Mark with a key nil")
	}
}

// Parts are marked one behind the other: where a text is cut is not to be seen.
func TestParts(t *testing.T) {
	for _, k := range keySizes {
		key := text(k)
		b := text(150)
		want := wanted(key, b)
		for cut := range len(b) + 1 {
			if got := mac.Mark(key, b[:cut], nil, b[cut:]); got != want {
				t.Fatalf("Mark cut at %d = %x, want %x", cut, got, want)
			}
			if !mac.Right(key, want[:16], b[:cut], b[cut:], []byte{}) {
				t.Fatalf("Right cut at %d is false", cut)
			}
		}
		single := make([][]byte, len(b))
		for i := range b {
			single[i] = b[i : i+1]
		}
		if mac.Mark(key, single...) != want || !mac.Right(key, want[:], single...) {
			t.Errorf("a mark byte by byte is another one")
		}
		if mac.Mark(key, b[75:], b[:75]) == want {
			t.Errorf("the order of the parts is not to be seen")
		}
	}
}

func TestEqual(t *testing.T) {
	for _, x := range []struct {
		a, b []byte
		want bool
	}{
		{nil, nil, true},
		{nil, []byte{}, true},
		{[]byte{}, nil, true},
		{nil, []byte{0}, false},
		{[]byte{0}, nil, false},
		{[]byte{0}, []byte{0}, true},
		{[]byte{0}, []byte{0, 0}, false},
		{[]byte{0, 0}, []byte{0}, false},
		{[]byte{1, 2}, []byte{2, 1}, false},
		{[]byte{3, 3}, []byte{1, 1}, false},
		{[]byte{0, 255}, []byte{255, 0}, false},
		{[]byte{0}, []byte{128}, false},
	} {
		if got := mac.Equal(x.a, x.b); got != x.want {
			t.Errorf("Equal(%v, %v) = %v", x.a, x.b, got)
		}
	}
	for _, n := range []int{1, 2, 7, 8, 31, 32, 33, 64, 300} {
		a, b := text(n), text(n)
		if !mac.Equal(a, b) || !mac.Equal(a, a) {
			t.Fatalf("%d bytes are not the same", n)
		}
		if mac.Equal(a, b[:n-1]) || mac.Equal(a[:n-1], b) || mac.Equal(a, append(bytes.Clone(b), 0)) {
			t.Errorf("%d bytes are the same as more or fewer", n)
		}
		for i := range 8 * n {
			b[i/8] ^= 1 << (i % 8)
			if mac.Equal(a, b) || mac.Equal(b, a) {
				t.Fatalf("%d bytes: the bit %d, turned, is not told", n, i)
			}
			b[i/8] ^= 1 << (i % 8)
		}
		// Unlike by the same at two places, which must not make up for each other.
		if n > 1 {
			b[0] ^= 85
			b[n-1] ^= 85
			if mac.Equal(a, b) {
				t.Errorf("%d bytes, unlike at two places, are the same", n)
			}
		}
	}
}

// fastest is the least time of some calls, so that a machine that is busy changes little.
func fastest(call func()) time.Duration {
	least := time.Duration(math.MaxInt64)
	for range 20 {
		from := time.Now()
		call()
		least = min(least, time.Since(from))
	}
	return least
}

// P4.1: all bytes are looked at. Some millions are unlike at the first or at the last one: leaving at the first would
// be thousands of times as fast.
func TestEqualLooksAtAll(t *testing.T) {
	a := make([]byte, 4<<20)
	first, last := bytes.Clone(a), bytes.Clone(a)
	first[0], last[len(last)-1] = 1, 1
	same := false
	atFirst := fastest(func() { same = mac.Equal(a, first) || same })
	atLast := fastest(func() { same = mac.Equal(a, last) || same })
	if same {
		t.Fatalf("unlike bytes are the same")
	}
	if atFirst*50 < atLast || atLast*50 < atFirst {
		t.Errorf("unlike at the first byte it takes %v, at the last one %v", atFirst, atLast)
	}
}

// P4.1 and P4.3: a beginning of 8 to 32 bytes is right, none that is shorter, longer, or turned.
func TestRight(t *testing.T) {
	for _, k := range keySizes {
		key, b := text(k), text(77)
		whole := wanted(key, b)
		long := append(whole[:len(whole):len(whole)], make([]byte, 40)...)
		for n := range len(long) + 1 {
			want := n >= 8 && n <= 32
			if got := mac.Right(key, long[:n], b); got != want {
				t.Errorf("Right of a mark's %d bytes with a key of %d = %v", n, k, got)
			}
		}
		if mac.Right(key, nil, b) || mac.Right(key, []byte{}) || mac.Right(key, nil) {
			t.Errorf("a mark without bytes is right")
		}
		if mac.Right(key, whole[1:], b) || mac.Right(key, whole[24:], b) {
			t.Errorf("the end of a mark is right")
		}
		if mac.Right(key, make([]byte, 16), b) {
			t.Errorf("noughts are a mark")
		}
	}
}

// P4.3: a mark of which any bit is turned is none, however long it is.
func TestTurnedMarks(t *testing.T) {
	key, b := []byte("a key"), []byte("a text")
	for n := 8; n <= 32; n++ {
		whole := wanted(key, b)
		mark := whole[:n]
		for i := range 8 * n {
			mark[i/8] ^= 1 << (i % 8)
			if mac.Right(key, mark, b) {
				t.Fatalf("a mark of %d bytes with its bit %d turned is right", n, i)
			}
			mark[i/8] ^= 1 << (i % 8)
		}
		if !mac.Right(key, mark, b) {
			t.Fatalf("a mark of %d bytes is not right", n)
		}
	}
}

// A mark is of one key and one text alone.
func TestOtherKeysAndTexts(t *testing.T) {
	for _, k := range []int{1, 16, 64, 65, 200} {
		key, b := text(k), text(90)
		mark := mac.Mark(key, b)
		for i := range 8 * k {
			key[i/8] ^= 1 << (i % 8)
			if mac.Right(key, mark[:8], b) {
				t.Fatalf("a key of %d bytes with its bit %d turned is right", k, i)
			}
			key[i/8] ^= 1 << (i % 8)
		}
		for i := range 8 * len(b) {
			b[i/8] ^= 1 << (i % 8)
			if mac.Right(key, mark[:8], b) {
				t.Fatalf("a text with its bit %d turned is right", i)
			}
			b[i/8] ^= 1 << (i % 8)
		}
		if !mac.Right(key, mark[:8], b) || mac.Right(key, mark[:8], b, []byte{0}) || mac.Right(key, mark[:8], b[:89]) {
			t.Errorf("a key of %d bytes: the mark of a text is that of more or fewer", k)
		}
	}
}

// P4.4: noughts behind a key, up to 64 bytes in all, change nothing; one more does.
func TestKeysFilledUp(t *testing.T) {
	b := text(50)
	for k := range 65 {
		key := text(k)
		want := mac.Mark(key, b)
		for n := k; n <= 64; n++ {
			if got := mac.Mark(append(bytes.Clone(key), make([]byte, n-k)...), b); got != want {
				t.Fatalf("a key of %d bytes, filled up to %d, marks otherwise", k, n)
			}
		}
		if mac.Mark(append(bytes.Clone(key), make([]byte, 65-k)...), b) == want {
			t.Errorf("a key of %d bytes, filled up to 65, is as it alone", k)
		}
		if k > 0 && mac.Mark(append(make([]byte, 1), key...), b) == want {
			t.Errorf("a nought ahead of a key of %d bytes changes nothing", k)
		}
	}
}

// A key of more than 64 bytes is its sum; one of 64 is not.
func TestLongKeys(t *testing.T) {
	b := []byte("a text")
	for _, k := range []int{63, 64, 65, 66, 128, 1000} {
		key := text(k)
		sum := sha.Of(key)
		if got := mac.Mark(key, b) == mac.Mark(sum[:], b); got != (k > 64) {
			t.Errorf("is a key of %d bytes its sum? %v", k, got)
		}
	}
}

func TestDerive(t *testing.T) {
	for _, x := range []struct {
		secret []byte
		label  string
		i      int
		want   api.Errno
	}{
		{[]byte("s"), "hide", 0, api.OK},
		{[]byte("s"), "mark", 0, api.OK},
		{[]byte("s"), "", 0, api.OK},
		{[]byte("s"), "hide", 1, api.OK},
		{[]byte("s"), "hide", 254, api.OK},
		{[]byte("s"), "hide", 255, api.OK},
		{[]byte{0}, "\x00", 0, api.OK},
		{[]byte("s"), strings.Repeat("l", 31), 7, api.OK},
		{[]byte("s"), strings.Repeat("l", 32), 7, api.OK},
		{[]byte("s"), strings.Repeat("\xff", 32), 7, api.OK},
		{text(64), "hide", 7, api.OK},
		{text(65), "hide", 7, api.OK},
		{text(1000), "hide", 7, api.OK},
		{nil, "hide", 0, api.ErrArg},
		{[]byte{}, "hide", 0, api.ErrArg},
		{nil, "", 0, api.ErrArg},
		{[]byte("s"), "hide", -1, api.ErrArg},
		{[]byte("s"), "hide", 256, api.ErrArg},
		{[]byte("s"), "hide", math.MinInt, api.ErrArg},
		{[]byte("s"), "hide", math.MaxInt, api.ErrArg},
		{[]byte("s"), strings.Repeat("l", 33), 0, api.ErrLong},
		{[]byte("s"), strings.Repeat("é", 17), 0, api.ErrLong},
		{[]byte("s"), strings.Repeat("l", 70000), 255, api.ErrLong},
		{nil, strings.Repeat("l", 33), 0, api.ErrArg},
		{[]byte("s"), strings.Repeat("l", 33), 256, api.ErrArg},
		{[]byte("s"), strings.Repeat("l", 33), -1, api.ErrArg},
	} {
		want := api.Key{}
		if x.want == api.OK {
			sum := wanted(x.secret, []byte(x.label), []byte{0, byte(x.i)})
			want = api.Key(sum[:16])
		}
		if key, e := mac.Derive(x.secret, x.label, x.i); e != x.want || key != want {
			t.Errorf("Derive(%d bytes, %q, %d) = %x, %v, want %x, %v", len(x.secret), x.label, x.i, key, e, want, x.want)
		}
	}
}

// Keys of unlike numbers, labels and secrets are unlike.
func TestDerivedKeysUnlike(t *testing.T) {
	seen := map[api.Key]int{}
	for _, secret := range []string{"s", "t", "s\x01"} {
		for _, label := range []string{"", "h", "hide", "mark", strings.Repeat("l", 31), strings.Repeat("l", 32)} {
			for i := range 256 {
				key, e := mac.Derive([]byte(secret), label, i)
				if e != api.OK {
					t.Fatalf("Derive(%q, %q, %d): %v", secret, label, i, e)
				}
				seen[key]++
				if seen[key] > 1 {
					t.Fatalf("Derive(%q, %q, %d) is another one's key", secret, label, i)
				}
			}
		}
	}
}

// What is handed in is neither changed nor kept, and what lies behind a length is left alone.
func TestMemory(t *testing.T) {
	whole := text(300)
	was := bytes.Clone(whole)
	key, secret := whole[:20], whole[20:90]
	parts := [][]byte{whole[100:110], whole[110:110], whole[120:200], whole[200:300]}
	sum := mac.Mark(key, parts[:3]...)
	if want := wanted(was[:20], was[100:110], was[120:200]); sum != want {
		t.Errorf("Mark reads behind a length: %x, want %x", sum, want)
	}
	mark := append(sum[:8:8], 1, 2, 3)
	if !mac.Right(key, mark[:8], parts[:3]...) || mac.Right(key, mark[:7], parts[:3]...) || !mac.Equal(mark[:8], sum[:8]) {
		t.Errorf("Right or Equal reads behind a length")
	}
	if !bytes.Equal(mark[8:], []byte{1, 2, 3}) {
		t.Errorf("Right has changed the mark's memory: %v", mark)
	}
	a, e := mac.Derive(secret, "hide", 3)
	if e != api.OK || !bytes.Equal(whole, was) || len(parts[3]) != 100 || &parts[3][0] != &whole[200] {
		t.Errorf("what was handed in has changed")
	}
	for i := range whole {
		whole[i] ^= 255
	}
	if b, _ := mac.Derive(was[20:90], "hide", 3); a != b || mac.Mark(was[:20], was[100:110], was[120:200]) != sum {
		t.Errorf("what was handed in is kept")
	}
}

// P1: no call panics, whatever it is given; with an error the key is zero.
func TestAnything(t *testing.T) {
	r := rand.New(rand.NewSource(5))
	numbers := []int{math.MinInt, -256, -1, 0, 1, 255, 256, 257, 65536, math.MaxInt}
	some := func(most int) []byte {
		if r.Intn(8) == 0 {
			return nil
		}
		return text(r.Intn(most))
	}
	for range 5000 {
		key, mark, a, b := some(140), some(40), some(200), some(200)
		if whole := mac.Mark(key, a, b); whole != wanted(key, a, b) {
			t.Fatalf("Mark(%x, %x, %x) = %x", key, a, b, whole)
		}
		if mac.Right(key, mark, a, b) {
			t.Fatalf("Right(%x, %x, %x, %x) is true", key, mark, a, b)
		}
		if mac.Equal(a, b) != bytes.Equal(a, b) {
			t.Fatalf("Equal(%x, %x)", a, b)
		}
		label, i := string(some(40)), numbers[r.Intn(len(numbers))]
		if k, e := mac.Derive(key, label, i); e != api.OK && k != (api.Key{}) || e == api.OK && k == (api.Key{}) {
			t.Fatalf("Derive(%x, %q, %d) = %x, %v", key, label, i, k, e)
		}
	}
}
