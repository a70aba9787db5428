package keys_test

import (
	"bytes"
	"math"
	"math/rand"
	"strings"
	"testing"

	"longline/api"
	"longline/keys"
)

// text is some bytes, each unlike those beside it.
func text(n int) []byte {
	b := make([]byte, n)
	for i := range b {
		b[i] = byte(i*7 + i>>8)
	}
	return b
}

// wantStream asks for all that can be asked of a stream.
func wantStream(t *testing.T, s *keys.Stream, base uint64, b string) {
	t.Helper()
	if from, got := s.Pending(); from != base || string(got) != b {
		t.Fatalf("Pending = %d, %q, want %d, %q", from, got, base, b)
	}
	if n := s.Count(); n != base+uint64(len(b)) {
		t.Fatalf("Count = %d, want %d", n, base+uint64(len(b)))
	}
}

func wantType(t *testing.T, s *keys.Stream, b string, want api.Errno) {
	t.Helper()
	if e := s.Type([]byte(b)); e != want {
		t.Fatalf("Type of %d bytes: %v, want %v", len(b), e, want)
	}
}

func wantAck(t *testing.T, s *keys.Stream, n uint64, want api.Errno) {
	t.Helper()
	if e := s.Ack(n); e != want {
		t.Fatalf("Ack(%d): %v, want %v", n, e, want)
	}
}

// wantTake is of bytes that a sink looks at: what it takes of them, and how many it has then.
func wantTake(t *testing.T, k *keys.Sink, from uint64, b, want string, count uint64) {
	t.Helper()
	if got, e := k.Take(from, []byte(b)); e != api.OK || string(got) != want {
		t.Fatalf("Take(%d, %q) = %q, %v, want %q", from, b, got, e, want)
	}
	if k.Count() != count {
		t.Fatalf("Count = %d, want %d", k.Count(), count)
	}
}

// wantRefused is of bytes that a sink does not take: nothing changes.
func wantRefused(t *testing.T, k *keys.Sink, from uint64, b []byte, want api.Errno) {
	t.Helper()
	count := k.Count()
	if got, e := k.Take(from, b); e != want || len(got) != 0 {
		t.Fatalf("Take(%d) of %d bytes = %q, %v, want %v", from, len(b), got, e, want)
	}
	if k.Count() != count {
		t.Fatalf("Take(%d): %v, and yet %d has become %d", from, want, count, k.Count())
	}
}

// P23.1 and P23.2: nothing was typed, nothing was taken.
func TestNew(t *testing.T) {
	s, k := keys.New(), keys.Take()
	if s == nil || k == nil {
		t.Fatal("New or Take is nil")
	}
	for range 2 {
		wantStream(t, s, 0, "")
		if k.Count() != 0 {
			t.Errorf("a new sink took %d", k.Count())
		}
	}
}

// P23.1 and P23.2: of nil, and of one that no call made; ErrNil is the first of all errors.
func TestNone(t *testing.T) {
	var zero keys.Stream
	var zeroSink keys.Sink
	held := struct {
		keys.Stream
		sink keys.Sink
	}{}
	for i, s := range []*keys.Stream{nil, &zero, new(keys.Stream), {}, &held.Stream} {
		for range 2 {
			for _, n := range []int{0, 1, 512, 513, 5000} {
				wantType(t, s, string(text(n)), api.ErrNil)
			}
			for _, n := range []uint64{0, 1, 512, math.MaxUint64} {
				wantAck(t, s, n, api.ErrNil)
			}
			if from, b := s.Pending(); from != 0 || len(b) != 0 || s.Count() != 0 {
				t.Errorf("%d: Pending = %d, %q, Count = %d", i, from, b, s.Count())
			}
		}
	}
	for _, k := range []*keys.Sink{nil, &zeroSink, new(keys.Sink), {}, &held.sink} {
		for _, n := range []int{0, 1, 512, 513, 5000} {
			for _, from := range []uint64{0, 1, math.MaxUint64} {
				wantRefused(t, k, from, text(n), api.ErrNil)
			}
		}
		if k.Count() != 0 {
			t.Errorf("Count = %d", k.Count())
		}
	}
}

// The document's example.
func TestExample(t *testing.T) {
	s, k := keys.New(), keys.Take()
	wantType(t, s, "ab", api.OK)
	wantStream(t, s, 0, "ab")
	wantTake(t, k, 0, "ab", "ab", 2)
	wantTake(t, k, 0, "ab", "", 2)
}

// P23.1: what is typed stands behind the others, whatever bytes it has.
func TestType(t *testing.T) {
	s := keys.New()
	wantType(t, s, "ab", api.OK)
	wantType(t, s, "", api.OK)
	wantStream(t, s, 0, "ab")
	wantType(t, s, "c", api.OK)
	wantType(t, s, "\x00\xFF\xC3", api.OK)
	wantStream(t, s, 0, "abc\x00\xFF\xC3")
	if e := s.Type(nil); e != api.OK {
		t.Fatalf("Type of nil: %v", e)
	}
	wantStream(t, s, 0, "abc\x00\xFF\xC3")
}

// P23.1: there are at most MaxKeys bytes behind the base; what does not fit as a whole is not typed at all.
func TestFull(t *testing.T) {
	for had := range 514 {
		s := keys.New()
		first := string(text(had))
		if had > 512 {
			wantType(t, s, first, api.ErrFull)
			wantStream(t, s, 0, "")
			continue
		}
		wantType(t, s, first, api.OK)
		for _, n := range []int{513 - had, 514 - had, 513, 1024, 70000} {
			wantType(t, s, strings.Repeat("x", n), api.ErrFull)
			wantStream(t, s, 0, first)
		}
		rest := strings.Repeat("y", 512-had)
		wantType(t, s, rest, api.OK)
		wantType(t, s, "", api.OK)
		wantType(t, s, "z", api.ErrFull)
		wantStream(t, s, 0, first+rest)
	}
}

// P23.1: what is acked makes room for as much again, however many were typed in all.
func TestRoomAgain(t *testing.T) {
	s := keys.New()
	wantType(t, s, strings.Repeat("a", 512), api.OK)
	for n := range uint64(2000) {
		wantType(t, s, "b", api.ErrFull)
		wantAck(t, s, n+1, api.OK)
		wantType(t, s, "bc", api.ErrFull)
		wantType(t, s, "b", api.OK)
		if s.Count() != 513+n {
			t.Fatalf("Count = %d, want %d", s.Count(), 513+n)
		}
	}
	wantStream(t, s, 2000, strings.Repeat("b", 512))
	wantAck(t, s, 2512, api.OK)
	wantType(t, s, strings.Repeat("c", 513), api.ErrFull)
	wantType(t, s, strings.Repeat("c", 512), api.OK)
	wantStream(t, s, 2512, strings.Repeat("c", 512))
}

// P23.1: an ack is from the base to what was typed; bytes ahead of it are gone.
func TestAck(t *testing.T) {
	s := keys.New()
	wantAck(t, s, 0, api.OK)
	for _, n := range []uint64{1, 2, 512, 1 << 63, math.MaxUint64} {
		wantAck(t, s, n, api.ErrArg)
	}
	wantStream(t, s, 0, "")
	wantType(t, s, "abcdef", api.OK)
	wantAck(t, s, 0, api.OK)
	wantAck(t, s, 7, api.ErrArg)
	wantStream(t, s, 0, "abcdef")
	wantAck(t, s, 2, api.OK)
	wantStream(t, s, 2, "cdef")
	for _, n := range []uint64{0, 1} {
		wantAck(t, s, n, api.ErrOld)
	}
	for _, n := range []uint64{7, 8, 1 << 63, math.MaxUint64} {
		wantAck(t, s, n, api.ErrArg)
	}
	wantStream(t, s, 2, "cdef")
	wantAck(t, s, 2, api.OK)
	wantStream(t, s, 2, "cdef")
	wantAck(t, s, 3, api.OK)
	wantType(t, s, "gh", api.OK)
	wantStream(t, s, 3, "defgh")
	wantAck(t, s, 8, api.OK)
	wantStream(t, s, 8, "")
	wantAck(t, s, 8, api.OK)
	wantAck(t, s, 7, api.ErrOld)
	wantAck(t, s, 0, api.ErrOld)
	wantAck(t, s, 9, api.ErrArg)
	wantType(t, s, "i", api.OK)
	wantStream(t, s, 8, "i")
}

// P23.2: of bytes those are taken that stand at Count or behind it.
func TestTake(t *testing.T) {
	k := keys.Take()
	wantTake(t, k, 0, "", "", 0)
	wantTake(t, k, 0, "abc", "abc", 3)
	wantTake(t, k, 0, "abcde", "de", 5)
	wantTake(t, k, 2, "cdef", "f", 6)
	wantTake(t, k, 5, "f", "", 6)
	wantTake(t, k, 6, "", "", 6)
	wantTake(t, k, 0, "", "", 6)
	wantTake(t, k, 1, "b", "", 6)
	wantTake(t, k, 6, "gh", "gh", 8)
	wantTake(t, k, 7, "hij", "ij", 10)
	wantTake(t, k, 3, "def", "", 10)
	// What stands at places that were taken is not looked at.
	wantTake(t, k, 8, "XY\x00\xFF", "\x00\xFF", 12)
	if got, e := k.Take(12, nil); e != api.OK || len(got) != 0 || k.Count() != 12 {
		t.Errorf("Take of nil: %q, %v", got, e)
	}
}

// P23.2: what stands above Count is not taken, as something ahead of it is missing.
func TestGap(t *testing.T) {
	k := keys.Take()
	for _, from := range []uint64{1, 2, 512, 1 << 63, math.MaxUint64} {
		wantRefused(t, k, from, []byte("a"), api.ErrBase)
		wantRefused(t, k, from, nil, api.ErrBase)
		wantRefused(t, k, from, text(512), api.ErrBase)
	}
	wantTake(t, k, 0, "abc", "abc", 3)
	for _, from := range []uint64{4, 5, 1<<63 + 1, math.MaxUint64 - 1, math.MaxUint64} {
		wantRefused(t, k, from, []byte("ef"), api.ErrBase)
		wantRefused(t, k, from, nil, api.ErrBase)
	}
	wantTake(t, k, 3, "d", "d", 4)
	wantTake(t, k, 4, "ef", "ef", 6)
}

// P23.2: MaxKeys bytes are taken, one more is too long, ahead of whatever else is wrong, and also if all were taken.
func TestLong(t *testing.T) {
	k := keys.Take()
	for _, n := range []int{513, 514, 1024, 70000} {
		wantRefused(t, k, 0, text(n), api.ErrLong)
		wantRefused(t, k, 1, text(n), api.ErrLong)
		wantRefused(t, k, math.MaxUint64, text(n), api.ErrLong)
	}
	all := string(text(1200))
	wantTake(t, k, 0, all[:512], all[:512], 512)
	wantTake(t, k, 1, all[1:513], all[512:513], 513)
	wantTake(t, k, 0, all[:512], "", 513)
	wantTake(t, k, 513, all[513:1025], all[513:1025], 1025)
	wantRefused(t, k, 0, []byte(all[:513]), api.ErrLong)
	wantRefused(t, k, 1025, text(513), api.ErrLong)
	wantTake(t, k, 600, all[600:1112], all[1025:1112], 1112)
}

// worded is a stream and a sink as the document words them, with all that was ever typed.
type worded struct {
	typed []byte
	base  int
	taken []byte
}

func (w *worded) typing(b []byte) api.Errno {
	if len(w.typed)-w.base+len(b) > 512 {
		return api.ErrFull
	}
	w.typed = append(w.typed, b...)
	return api.OK
}

func (w *worded) ack(n uint64) api.Errno {
	switch {
	case n < uint64(w.base):
		return api.ErrOld
	case n > uint64(len(w.typed)):
		return api.ErrArg
	}
	w.base = int(n)
	return api.OK
}

// take takes byte by byte.
func (w *worded) take(from uint64, b []byte) ([]byte, api.Errno) {
	switch {
	case len(b) > 512:
		return nil, api.ErrLong
	case from > uint64(len(w.taken)):
		return nil, api.ErrBase
	}
	var l []byte
	for i, c := range b {
		if int(from)+i >= len(w.taken) {
			w.taken = append(w.taken, c)
			l = append(l, c)
		}
	}
	return l, api.OK
}

// near is mostly a number about another one, and sometimes far away from it.
func near(r *rand.Rand, n uint64) uint64 {
	switch r.Intn(12) {
	case 0:
		return r.Uint64()
	case 1:
		return []uint64{0, 1, math.MaxUint64}[r.Intn(3)]
	}
	return n + uint64(r.Intn(40)) - uint64(r.Intn(40))
}

func anyBytes(r *rand.Rand) []byte {
	n := r.Intn(20)
	if r.Intn(8) == 0 {
		n = r.Intn(560)
	}
	b := make([]byte, n)
	r.Read(b)
	return b
}

// P1, P23.1 and P23.2, anything, held against the document's own wording.
func TestWorded(t *testing.T) {
	seen := map[api.Errno]int{}
	for seed := range int64(150) {
		r := rand.New(rand.NewSource(seed))
		s, k, w := keys.New(), keys.Take(), &worded{}
		for range 400 {
			b := anyBytes(r)
			var got, want api.Errno
			switch r.Intn(3) {
			case 0:
				got, want = s.Type(b), w.typing(b)
			case 1:
				n := near(r, s.Count()-uint64(r.Intn(100)))
				got, want = s.Ack(n), w.ack(n)
			case 2:
				from := near(r, k.Count())
				wantTaken, e := w.take(from, b)
				taken, f := k.Take(from, b)
				if !bytes.Equal(taken, wantTaken) {
					t.Fatalf("Take(%d, %v) = %v, want %v", from, b, taken, wantTaken)
				}
				got, want = f, e
			}
			if got != want || k.Count() != uint64(len(w.taken)) {
				t.Fatalf("%v, want %v; %d were taken, want %d", got, want, k.Count(), len(w.taken))
			}
			seen[got]++
			wantStream(t, s, uint64(w.base), string(w.typed[w.base:]))
		}
	}
	for _, e := range []api.Errno{api.OK, api.ErrFull, api.ErrOld, api.ErrArg, api.ErrLong, api.ErrBase} {
		if seen[e] < 100 {
			t.Errorf("%v was answered %d times", e, seen[e])
		}
	}
}

// sent is what a stream told once.
type sent struct {
	from uint64
	b    []byte
}

// P23.3 (and P5): of Pendings and acks that are lost, doubled and mixed the sink takes a beginning of what was typed, each
// byte once; P23.4: the last Pending gives it all.
func TestInOrderOnce(t *testing.T) {
	again, gaps := 0, 0
	for seed := range int64(300) {
		r := rand.New(rand.NewSource(seed))
		s, k := keys.New(), keys.Take()
		var typed, taken []byte
		var way []sent
		var acks []uint64
		for range 200 {
			switch r.Intn(4) {
			case 0:
				b := anyBytes(r)
				if s.Type(b) == api.OK {
					typed = append(typed, b...)
				}
			case 1:
				from, b := s.Pending()
				way = append(way, sent{from, b})
			case 2:
				if len(way) == 0 {
					continue
				}
				// Each may come often, or never.
				x := way[r.Intn(len(way))]
				got, e := k.Take(x.from, x.b)
				taken = append(taken, got...)
				acks = append(acks, k.Count())
				if e == api.OK && len(got) < len(x.b) {
					again++
				}
				if e == api.ErrBase {
					gaps++
				}
			case 3:
				if len(acks) > 0 {
					s.Ack(acks[r.Intn(len(acks))])
				}
			}
			if !bytes.HasPrefix(typed, taken) || k.Count() != uint64(len(taken)) || s.Count() != uint64(len(typed)) {
				t.Fatalf("%d were typed, %d were taken: no beginning, or Count is %d, %d", len(typed), len(taken), s.Count(), k.Count())
			}
		}
		from, b := s.Pending()
		got, e := k.Take(from, b)
		if taken = append(taken, got...); e != api.OK || !bytes.Equal(taken, typed) {
			t.Fatalf("behind the last Pending %d of %d were taken, %v", len(taken), len(typed), e)
		}
		if e := s.Ack(k.Count()); e != api.OK {
			t.Fatalf("the last ack: %v", e)
		}
		wantStream(t, s, uint64(len(typed)), "")
	}
	if again < 1000 {
		t.Errorf("%d Pendings were taken in part, or not at all", again)
	}
	if gaps != 0 {
		// The base is what the sink has for sure: no Pending leaves it a gap.
		t.Errorf("%d Pendings left a gap", gaps)
	}
}

// P23.3: a Pending that was told ahead of an ack may come behind those told later.
func TestOldPending(t *testing.T) {
	s, k := keys.New(), keys.Take()
	wantType(t, s, "abc", api.OK)
	from, old := s.Pending()
	wantTake(t, k, from, string(old), "abc", 3)
	wantAck(t, s, 3, api.OK)
	wantType(t, s, "de", api.OK)
	now, b := s.Pending()
	wantTake(t, k, now, string(b), "de", 5)
	wantTake(t, k, from, string(old), "", 5)
	wantAck(t, s, 5, api.OK)
	wantAck(t, s, 3, api.ErrOld)
	wantStream(t, s, 5, "")
}

// Rules 4 and 5: what is handed in is neither changed nor kept, and nothing behind a list's length is read or written.
func TestHandedIn(t *testing.T) {
	room := []byte("abcdefgh")
	s, k := keys.New(), keys.Take()
	if e := s.Type(room[:3]); e != api.OK {
		t.Fatalf("Type: %v", e)
	}
	wantType(t, s, "XY", api.OK)
	got, e := k.Take(0, room[:3])
	if e != api.OK || string(got) != "abc" || k.Count() != 3 {
		t.Fatalf("Take: %q, %v", got, e)
	}
	some, _ := k.Take(1, room[1:5])
	_ = append(got, "1234"...)
	_ = append(some, "1234"...)
	if string(room) != "abcdefgh" {
		t.Fatalf("what was handed in is %q", room)
	}
	for i := range room {
		room[i] = '.'
	}
	if string(got) != "abc" || string(some) != "de" {
		t.Fatalf("what was handed in was kept: %q, %q", got, some)
	}
	wantStream(t, s, 0, "abcXY")
}

// Rule 5: what is handed out is new memory.
func TestHandedOut(t *testing.T) {
	s := keys.New()
	wantType(t, s, "abcdef", api.OK)
	spoil := func() {
		_, b := s.Pending()
		_ = append(b, "1234"...)
		for i := range b {
			b[i] = '.'
		}
	}
	_, kept := s.Pending()
	spoil()
	wantStream(t, s, 0, "abcdef")
	wantAck(t, s, 2, api.OK)
	spoil()
	wantStream(t, s, 2, "cdef")
	wantType(t, s, "gh", api.OK)
	wantAck(t, s, 6, api.OK)
	wantType(t, s, "ij", api.OK)
	spoil()
	wantStream(t, s, 6, "ghij")
	if string(kept) != "abcdef" {
		t.Errorf("what was handed out has become %q", kept)
	}
}

// Streams and sinks side by side have nothing in common, nor has one with its copy.
func TestSideBySide(t *testing.T) {
	a, b := keys.New(), keys.New()
	wantType(t, a, "ab", api.OK)
	wantStream(t, b, 0, "")
	wantType(t, a, "c", api.OK)
	wantType(t, a, "d", api.OK)
	wantType(t, a, "e", api.OK)
	copied := *a
	wantType(t, a, "x", api.OK)
	wantType(t, &copied, "y", api.OK)
	wantStream(t, a, 0, "abcdex")
	wantStream(t, &copied, 0, "abcdey")
	wantAck(t, a, 2, api.OK)
	copied = *a
	wantType(t, &copied, "y", api.OK)
	wantType(t, a, "z", api.OK)
	wantStream(t, a, 2, "cdexz")
	wantStream(t, &copied, 2, "cdexy")
	k, l := keys.Take(), keys.Take()
	wantTake(t, k, 0, "ab", "ab", 2)
	wantTake(t, l, 0, "x", "x", 1)
	wantTake(t, k, 2, "c", "c", 3)
}

// What is asked changes nothing.
func TestAskedOften(t *testing.T) {
	s, k := keys.New(), keys.Take()
	wantType(t, s, "ab", api.OK)
	wantAck(t, s, 1, api.OK)
	wantTake(t, k, 0, "ab", "ab", 2)
	for range 100 {
		wantStream(t, s, 1, "b")
		if k.Count() != 2 {
			t.Fatalf("Count = %d", k.Count())
		}
	}
}
