package peer_test

import (
	"math"
	"math/rand"
	"slices"
	"testing"

	"longline/api"
	"longline/peer"
)

// state is all that can be asked of a peer, at the nonces that a test has.
type state struct {
	newest uint64
	from   uint32
	known  bool
	moves  int
}

func stateOf(p *peer.Peer) state {
	from, known := p.From()
	return state{p.Newest(), from, known, p.Moves()}
}

func wantState(t *testing.T, p *peer.Peer, newest uint64, from uint32, moves int) {
	t.Helper()
	if got, want := stateOf(p), (state{newest, from, true, moves}); got != want {
		t.Fatalf("the peer is %v, want %v", got, want)
	}
}

// wantHear is of a nonce that is heard.
func wantHear(t *testing.T, p *peer.Peer, nonce uint64, from uint32, want bool) {
	t.Helper()
	if got, e := p.Hear(nonce, from); e != api.OK || got != want {
		t.Fatalf("Hear(%d, %d) = %v, %v, want %v", nonce, from, got, e, want)
	}
	if !p.Heard(nonce) {
		t.Fatalf("%d was heard, but Heard denies it", nonce)
	}
}

// around is the nonces about the greatest one's window, and those that are far away.
func around(newest uint64) []uint64 {
	l := []uint64{0, 1, 2, api.MaxNonce - 1, api.MaxNonce, api.MaxNonce + 1, math.MaxUint64}
	for d := range uint64(70) {
		l = append(l, newest-d, newest+d)
	}
	return l
}

func heardOf(p *peer.Peer, l []uint64) []bool {
	var heard []bool
	for _, nonce := range l {
		heard = append(heard, p.Heard(nonce))
	}
	return heard
}

// wantError is of a nonce that is not heard: nothing changes.
func wantError(t *testing.T, p *peer.Peer, nonce uint64, from uint32, want api.Errno) {
	t.Helper()
	before, near := stateOf(p), around(p.Newest())
	heard := heardOf(p, near)
	if got, e := p.Hear(nonce, from); e != want || got {
		t.Fatalf("Hear(%d, %d) = %v, %v, want %v", nonce, from, got, e, want)
	}
	if after := stateOf(p); after != before || !slices.Equal(heardOf(p, near), heard) {
		t.Fatalf("Hear(%d, %d): %v, and yet %v has become %v", nonce, from, want, before, after)
	}
}

func wantHeard(t *testing.T, p *peer.Peer, nonce uint64, want bool) {
	t.Helper()
	if got := p.Heard(nonce); got != want {
		t.Fatalf("Heard(%d) = %v, the greatest is %d, want %v", nonce, got, p.Newest(), want)
	}
}

// P11.1: a new peer heard none, not even 0.
func TestNew(t *testing.T) {
	p := peer.New()
	if p == nil {
		t.Fatal("New is nil")
	}
	for range 2 {
		if got := stateOf(p); got != (state{}) {
			t.Errorf("a new peer is %v", got)
		}
		for _, nonce := range []uint64{0, 1, 2, 63, 64, 65, 1 << 32, api.MaxNonce, api.MaxNonce + 1, math.MaxUint64} {
			wantHeard(t, p, nonce, false)
		}
	}
}

// P11.1: of nil, and of one that no call made; ErrNil is the first of all errors.
func TestNoPeer(t *testing.T) {
	var none *peer.Peer
	var zero peer.Peer
	held := struct{ peer.Peer }{}
	for i, p := range []*peer.Peer{none, &zero, new(peer.Peer), {}, &held.Peer} {
		for range 2 {
			for _, nonce := range []uint64{0, 1, 64, api.MaxNonce, api.MaxNonce + 1, math.MaxUint64} {
				if got, e := p.Hear(nonce, 7); got || e != api.ErrNil {
					t.Errorf("%d: Hear(%d) = %v, %v", i, nonce, got, e)
				}
				wantHeard(t, p, nonce, false)
			}
			if got := stateOf(p); got != (state{}) {
				t.Errorf("%d: the peer is %v", i, got)
			}
		}
	}
	if zero != (peer.Peer{}) {
		t.Errorf("a Peer that no call made has changed")
	}
}

// The document's example.
func TestExample(t *testing.T) {
	p := peer.New()
	wantHear(t, p, 5, 1, true)
	wantHear(t, p, 3, 2, false)
	wantState(t, p, 5, 1, 0)
}

// P11.2: nonces are from 1 to MaxNonce, whatever was heard.
func TestNoNonce(t *testing.T) {
	p := peer.New()
	for _, newest := range []uint64{0, 1, 2, 64, 65, 1 << 40, api.MaxNonce - 1, api.MaxNonce} {
		if newest > 0 {
			wantHear(t, p, newest, 4, newest == 1)
		}
		for _, nonce := range []uint64{0, api.MaxNonce + 1, api.MaxNonce + 2, 1<<63 | 1<<40, math.MaxUint64} {
			wantError(t, p, nonce, 9, api.ErrArg)
			wantHeard(t, p, nonce, nonce == 0 && newest > 0)
		}
	}
}

// P11.2: the first one may be any nonce, from any address, and is no move.
func TestFirst(t *testing.T) {
	for _, nonce := range []uint64{1, 2, 63, 64, 65, 1 << 32, api.MaxNonce - 1, api.MaxNonce} {
		for _, from := range []uint32{0, 1, math.MaxUint32} {
			p := peer.New()
			wantHear(t, p, nonce, from, true)
			wantState(t, p, nonce, from, 0)
			for d := range uint64(70) {
				below := nonce - d
				if d >= nonce {
					below = 0
				}
				wantHeard(t, p, below, below == 0 || d == 0 || d >= 64)
				wantHeard(t, p, nonce+d, d == 0)
			}
			wantError(t, p, nonce, from+1, api.ErrOld)
		}
	}
}

// P11.2: the address becomes another one with a greater nonce alone; the bool and Moves tell it.
func TestAddress(t *testing.T) {
	p := peer.New()
	for _, x := range []struct {
		nonce uint64
		from  uint32
		told  bool
		now   uint32
		moves int
	}{
		{10, 1, true, 1, 0}, {11, 1, false, 1, 0}, {9, 2, false, 1, 0}, {12, 2, true, 2, 1}, {8, 1, false, 2, 1}, {7, 2, false, 2, 1},
		{20, 2, false, 2, 1}, {21, 1, true, 1, 2}, {22, 0, true, 0, 3}, {23, 0, false, 0, 3}, {19, math.MaxUint32, false, 0, 3},
		{24, math.MaxUint32, true, math.MaxUint32, 4}, {500, 0, true, 0, 5}, {501, 1, true, 1, 6}, {500 - 63 + 1, 0, false, 1, 6},
	} {
		wantHear(t, p, x.nonce, x.from, x.told)
		wantState(t, p, max(x.nonce, p.Newest()), x.now, x.moves)
	}
	// What is refused moves nothing, from whatever address.
	wantError(t, p, 501, 77, api.ErrOld)
	wantError(t, p, 1, 77, api.ErrOld)
	wantError(t, p, 0, 77, api.ErrArg)
	wantState(t, p, 501, 1, 6)
}

// The address 0 is one like all others: as the first one, and to come to and go from.
func TestAddressZero(t *testing.T) {
	p := peer.New()
	wantHear(t, p, 1, 0, true)
	wantHear(t, p, 2, 0, false)
	wantHear(t, p, 3, 5, true)
	wantHear(t, p, 4, 0, true)
	wantState(t, p, 4, 0, 2)
}

// P11.1 and P11.2: of the 64 nonces up to the greatest each is known; one 64 below it is told as heard, and is ErrOld.
func TestWindow(t *testing.T) {
	for _, newest := range []uint64{65, 100, 1 << 33, 1<<62 + 5, api.MaxNonce} {
		for d := uint64(1); d < 64; d++ {
			p := peer.New()
			wantHear(t, p, newest, 1, true)
			wantHeard(t, p, newest-d, false)
			wantHear(t, p, newest-d, 2, false)
			for other := range uint64(64) {
				wantHeard(t, p, newest-other, other == 0 || other == d)
			}
			wantError(t, p, newest-d, 3, api.ErrOld)
			wantState(t, p, newest, 1, 0)
		}
		p := peer.New()
		wantHear(t, p, newest, 1, true)
		for _, nonce := range []uint64{newest - 64, 1} {
			wantHeard(t, p, nonce, true)
			wantError(t, p, nonce, 2, api.ErrOld)
		}
		wantHear(t, p, newest-63, 2, false)
		wantState(t, p, newest, 1, 0)
	}
}

// The window goes on with the greatest nonce by any step: what was heard stays so, what leaves it is told as heard.
func TestWindowGoesOn(t *testing.T) {
	const first = 1000
	for step := uint64(1); step < 140; step++ {
		p := peer.New()
		wantHear(t, p, first, 1, true)
		for _, d := range []uint64{1, 5, 30, 62, 63} {
			wantHear(t, p, first-d, 1, false)
		}
		wantHear(t, p, first+step, 2, true)
		wantState(t, p, first+step, 2, 1)
		for nonce := uint64(900); nonce < first+step+3; nonce++ {
			came := slices.Contains([]uint64{1000, 999, 995, 970, 938, 937, first + step}, nonce)
			wantHeard(t, p, nonce, came || nonce+64 <= first+step)
		}
	}
	// By more than a number of 64 bits can shift, too.
	for _, newest := range []uint64{1<<32 + 3, 1 << 62, api.MaxNonce} {
		p := peer.New()
		wantHear(t, p, 2, 1, true)
		wantHear(t, p, newest, 1, false)
		wantHear(t, p, newest-63, 1, false)
		wantHear(t, p, newest-1, 1, false)
		wantError(t, p, 3, 1, api.ErrOld)
		for d := range uint64(64) {
			wantHeard(t, p, newest-d, d < 2 || d == 63)
		}
	}
}

// Near 1 nothing below it is heard, and 0 is told as heard.
func TestFirstNonces(t *testing.T) {
	p := peer.New()
	wantHear(t, p, 64, 1, true)
	wantHeard(t, p, 0, true)
	for nonce := uint64(1); nonce < 64; nonce++ {
		wantHeard(t, p, nonce, false)
		wantHear(t, p, nonce, 1, false)
	}
	p = peer.New()
	wantHear(t, p, 65, 1, true)
	wantError(t, p, 1, 1, api.ErrOld)
	wantHear(t, p, 2, 1, false)
}

// worded is a peer as the document words it, with all that it ever heard.
type worded struct {
	all   map[uint64]int
	max   uint64
	from  uint32
	moves int
}

func (w *worded) tooOld(nonce uint64) bool { return w.max >= 64 && nonce <= w.max-64 }

func (w *worded) heard(nonce uint64) bool {
	return len(w.all) > 0 && (nonce == 0 || w.tooOld(nonce)) || w.all[nonce] > 0
}

func (w *worded) hear(nonce uint64, from uint32) (bool, api.Errno) {
	switch {
	case nonce < 1 || nonce > 1<<63-1:
		return false, api.ErrArg
	case w.tooOld(nonce) || w.all[nonce] > 0:
		return false, api.ErrOld
	}
	first := len(w.all) == 0
	w.all[nonce]++
	if nonce < w.max {
		return false, api.OK
	}
	another := !first && from != w.from
	w.max, w.from = nonce, from
	if another {
		w.moves++
	}
	return first || another, api.OK
}

func (w *worded) state() state { return state{w.max, w.from, len(w.all) > 0, w.moves} }

// anyNonce is mostly about the greatest one, and sometimes none at all.
func anyNonce(r *rand.Rand, newest uint64) uint64 {
	switch r.Intn(40) {
	case 0:
		return newest + uint64(r.Intn(200))
	case 1:
		return []uint64{0, 1, api.MaxNonce + 1, math.MaxUint64}[r.Intn(4)]
	case 2:
		return newest - 64 + uint64(r.Intn(3))
	}
	return newest + uint64(r.Intn(5)) - uint64(r.Intn(70))
}

// P11.1 and P11.2, any nonces, held against the document's own wording; P11.3: each once; P11.4: the address is that of
// the greatest.
func TestAnyNonces(t *testing.T) {
	seen := map[api.Errno]int{}
	for seed := range int64(60) {
		r := rand.New(rand.NewSource(seed))
		p, w := peer.New(), &worded{all: map[uint64]int{}}
		start := []uint64{1, 60, 1 << 32, 1 << 62, api.MaxNonce - 100}[seed%5]
		times, address := map[uint64]int{}, map[uint64]uint32{}
		for range 300 {
			nonce, from := anyNonce(r, max(start, p.Newest())), uint32(r.Intn(3))
			told, e := p.Hear(nonce, from)
			if wantTold, want := w.hear(nonce, from); e != want || told != wantTold {
				t.Fatalf("Hear(%d, %d) = %v, %v, want %v, %v", nonce, from, told, e, wantTold, want)
			}
			if stateOf(p) != w.state() {
				t.Fatalf("the peer is %v, want %v", stateOf(p), w.state())
			}
			for _, near := range around(p.Newest()) {
				wantHeard(t, p, near, w.heard(near))
			}
			seen[e]++
			if e != api.OK {
				continue
			}
			address[nonce] = from
			if times[nonce]++; times[nonce] > 1 {
				t.Fatalf("%d is heard twice", nonce)
			}
			if got, _ := p.From(); got != address[p.Newest()] {
				t.Fatalf("the address is %d, that of %d was %d", got, p.Newest(), address[p.Newest()])
			}
		}
	}
	for _, e := range []api.Errno{api.OK, api.ErrArg, api.ErrOld} {
		if seen[e] < 100 {
			t.Errorf("%v was answered %d times", e, seen[e])
		}
	}
}

// P11.4: whatever order they come in, the address is that of the greatest; P11.3: and each is heard, once.
func TestAnyOrder(t *testing.T) {
	for seed := range int64(200) {
		r := rand.New(rand.NewSource(seed))
		p := peer.New()
		base := uint64(r.Intn(1000))
		order := r.Perm(64)
		for _, d := range order {
			if _, e := p.Hear(base+1+uint64(d), uint32(100+d)); e != api.OK {
				t.Fatalf("Hear(%d): %v", base+1+uint64(d), e)
			}
		}
		if from, ok := p.From(); !ok || from != 163 || p.Newest() != base+64 {
			t.Fatalf("Newest = %d, From = %d, %v", p.Newest(), from, ok)
		}
		for _, d := range order {
			wantError(t, p, base+1+uint64(d), 5, api.ErrOld)
		}
	}
}

// What is asked changes nothing.
func TestAskedOften(t *testing.T) {
	p := peer.New()
	wantHear(t, p, 70, 3, true)
	for range 100 {
		for _, nonce := range around(70) {
			p.Heard(nonce)
		}
		wantState(t, p, 70, 3, 0)
	}
	wantHear(t, p, 69, 4, false)
	wantHear(t, p, 71, 4, true)
	wantState(t, p, 71, 4, 1)
}

// Peers side by side have nothing in common.
func TestSideBySide(t *testing.T) {
	a, b := peer.New(), peer.New()
	wantHear(t, a, 9, 1, true)
	if got := stateOf(b); got != (state{}) {
		t.Fatalf("another one is %v", got)
	}
	wantHear(t, b, 3, 2, true)
	copied := *a
	wantHear(t, a, 10, 2, true)
	wantState(t, &copied, 9, 1, 0)
	wantState(t, b, 3, 2, 0)
	wantHear(t, &copied, 10, 1, false)
}
