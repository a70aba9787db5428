package link_test

import (
	"bytes"
	"math"
	"math/rand"
	"slices"
	"testing"

	"longline/api"
	"longline/frag"
	"longline/join"
	"longline/link"
	"longline/rtt"
	"longline/seal"
	"longline/vint"
)

var secret = []byte("a secret of both sides")

// lastOpen is the last nonce with as many as MaxParts left: of the one behind it a link is closed.
const lastOpen = api.MaxVint - api.MaxParts + 1

// lengths are those around parts' ends, and the limit.
var lengths = []int{0, 1, 2, 479, 480, 481, 500, 959, 960, 961, 5000, 23519, 23520, 23521, api.MaxFrame - 1, api.MaxFrame}

// nonces are those at which a frame's number has another count of bytes, and the last ones.
var nonces = []uint64{1, 62, 63, 64, 65, 16383, 16384, 1<<30 - 1, 1 << 30, 1 << 61, lastOpen - 1, lastOpen}

// text is n bytes, always the same ones.
func text(n int) []byte {
	b := make([]byte, n)
	rand.New(rand.NewSource(int64(n))).Read(b)
	return b
}

func mustNew(t *testing.T, side int) *link.Link {
	t.Helper()
	l, e := link.New(secret, side)
	if e != api.OK || l == nil {
		t.Fatalf("New(%q, %d) = %v, %v", secret, side, l, e)
	}
	return l
}

// mustAt is a link whose next nonce is that.
func mustAt(t *testing.T, side int, next uint64) *link.Link {
	t.Helper()
	l := mustNew(t, side)
	if e := l.Skip(next); e != api.OK {
		t.Fatalf("Skip(%d): %v", next, e)
	}
	return l
}

func mustSend(t *testing.T, l *link.Link, now int, frame []byte) [][]byte {
	t.Helper()
	datagrams, e := l.Send(now, frame)
	if e != api.OK {
		t.Fatalf("Send of %d bytes: %v", len(frame), e)
	}
	return datagrams
}

// wanted is a frame's datagrams by what the layers below make, the first one of that nonce.
func wanted(t *testing.T, side int, nonce uint64, frame []byte) [][]byte {
	t.Helper()
	parts, e := frag.Split(nonce, frame)
	if e != api.OK {
		t.Fatalf("Split(%d): %v", nonce, e)
	}
	var datagrams [][]byte
	for i, p := range parts {
		plain, e := frag.Write(p)
		if e != api.OK {
			t.Fatalf("Write(%d): %v", nonce, e)
		}
		datagrams = append(datagrams, sealed(t, side, nonce+uint64(i), plain))
	}
	return datagrams
}

// sealed is a datagram of any plain bytes: what who has the secret can make.
func sealed(t *testing.T, side int, nonce uint64, plain []byte) []byte {
	t.Helper()
	s, e := seal.New(secret, side)
	if e != api.OK || s.Skip(nonce) != api.OK {
		t.Fatalf("New: %v", e)
	}
	b, e := s.Seal(plain)
	if e != api.OK {
		t.Fatalf("Seal: %v", e)
	}
	return b
}

func sameBytes(a, b [][]byte) bool { return slices.EqualFunc(a, b, bytes.Equal) }

func total(l [][]byte) int {
	n := 0
	for _, b := range l {
		n += len(b)
	}
	return n
}

// wantHear is of a datagram behind which its frame is not whole.
func wantHear(t *testing.T, l *link.Link, from uint32, b []byte) {
	t.Helper()
	if frame, ok, e := l.Hear(from, b); e != api.OK || ok || len(frame) != 0 {
		t.Fatalf("Hear of %d bytes = %d bytes, %v, %v", len(b), len(frame), ok, e)
	}
}

func wantWhole(t *testing.T, l *link.Link, from uint32, b, want []byte) {
	t.Helper()
	if frame, ok, e := l.Hear(from, b); e != api.OK || !ok || !bytes.Equal(frame, want) {
		t.Fatalf("Hear of %d bytes = %d bytes, %v, %v, want %d bytes", len(b), len(frame), ok, e, len(want))
	}
}

func wantErrHear(t *testing.T, l *link.Link, from uint32, b []byte, want api.Errno) {
	t.Helper()
	if frame, ok, e := l.Hear(from, b); e != want || ok || len(frame) != 0 {
		t.Fatalf("Hear of %d bytes = %d bytes, %v, %v, want %v", len(b), len(frame), ok, e, want)
	}
}

func wantTo(t *testing.T, l *link.Link, from uint32, known bool) {
	t.Helper()
	if got, ok := l.To(); got != from || ok != known {
		t.Fatalf("To = %d, %v, want %d, %v", got, ok, from, known)
	}
}

func wantErrSend(t *testing.T, l *link.Link, now int, frame []byte, want api.Errno) {
	t.Helper()
	if datagrams, e := l.Send(now, frame); e != want || len(datagrams) != 0 {
		t.Fatalf("Send(%d) of %d bytes = %d datagrams, %v, want %v", now, len(frame), len(datagrams), e, want)
	}
}

// wantNext asks a link for its next nonce by a datagram that it makes, which takes that nonce.
func wantNext(t *testing.T, l *link.Link, side int, nonce uint64) {
	t.Helper()
	if got := mustSend(t, l, 0, nil); !sameBytes(got, wanted(t, side, nonce, nil)) {
		t.Fatalf("the next datagram is %x, not that of %d", got, nonce)
	}
}

// P12.1: the sealer's errors, and a link that has sent and heard nothing.
func TestNew(t *testing.T) {
	if link.Beat != 20 {
		t.Errorf("Beat = %d", link.Beat)
	}
	for _, x := range []struct {
		secret []byte
		side   int
	}{{nil, 0}, {[]byte{}, 1}, {secret, 2}, {secret, -1}, {secret, math.MinInt}, {secret, math.MaxInt}, {nil, 2}} {
		if l, e := link.New(x.secret, x.side); l != nil || e != api.ErrArg {
			t.Errorf("New(%q, %d) = %v, %v", x.secret, x.side, l, e)
		}
	}
	for side := range 2 {
		l := mustNew(t, side)
		wantTo(t, l, 0, false)
		if l.Closed() || l.Due(19) || !l.Due(20) {
			t.Errorf("Closed = %v, Due = %v, %v", l.Closed(), l.Due(19), l.Due(20))
		}
		wantNext(t, l, side, 1)
	}
}

// P12.1: of nil, and of one that no call made; ErrNil is the first of all errors.
func TestNoLink(t *testing.T) {
	var none *link.Link
	var zero link.Link
	held := struct{ link.Link }{}
	heard := sealed(t, 1, 1, []byte{1, 0, 1})
	for i, l := range []*link.Link{none, &zero, new(link.Link), {}, &held.Link, {Peer: mustNew(t, 0).Peer}} {
		for range 2 {
			for _, n := range []int{-1, 0, 1, 500, api.MaxFrame, api.MaxFrame + 1, math.MinInt, math.MaxInt} {
				if l.Due(n) || l.Cost(n) != 0 {
					t.Errorf("%d: Due(%d) = %v, Cost = %d", i, n, l.Due(n), l.Cost(n))
				}
			}
			for _, b := range [][]byte{nil, {}, text(24), text(600), text(api.MaxFrame + 1), heard} {
				wantErrSend(t, l, 30, b, api.ErrNil)
				wantErrHear(t, l, 7, b, api.ErrNil)
			}
			for _, next := range []uint64{0, 1, 2, lastOpen + 1, api.MaxNonce, math.MaxUint64} {
				if e := l.Skip(next); e != api.ErrNil {
					t.Errorf("%d: Skip(%d): %v", i, next, e)
				}
			}
			wantTo(t, l, 0, false)
			if l.Meter() != nil || l.Closed() {
				t.Errorf("%d: Meter = %v, Closed = %v", i, l.Meter(), l.Closed())
			}
		}
	}
	// One whose peer was taken away hears nothing any more, and does not panic.
	robbed := mustNew(t, 0)
	robbed.Peer = nil
	wantErrHear(t, robbed, 7, heard, api.ErrNil)
	wantTo(t, robbed, 0, false)
}

// P12.1: one and the same meter, which measured nothing at first.
func TestMeter(t *testing.T) {
	a, b := mustNew(t, 0), mustNew(t, 0)
	if a.Meter() == nil || a.Meter() != a.Meter() || a.Meter() == b.Meter() {
		t.Fatalf("Meter = %p, %p, another one's %p", a.Meter(), a.Meter(), b.Meter())
	}
	if *a.Meter() != *rtt.New() {
		t.Errorf("a new link has measured")
	}
	if e := a.Meter().Measure(8); e != api.OK || a.Meter().Wait() != 24 || b.Meter().Wait() != 4 {
		t.Errorf("Measure: %v, Wait = %d, another one's %d", e, a.Meter().Wait(), b.Meter().Wait())
	}
	// Neither sending nor hearing measures.
	for _, d := range mustSend(t, mustNew(t, 1), 50, text(1000)) {
		a.Hear(3, d)
	}
	mustSend(t, a, 90, text(1000))
	if a.Meter().Wait() != 24 {
		t.Errorf("Wait = %d behind Hear and Send", a.Meter().Wait())
	}
}

// Fixed bytes: the plain ones of a first frame are its number, its place, how many parts there are, and what it has.
func TestKnownFrame(t *testing.T) {
	for side := range 2 {
		l := mustNew(t, side)
		got := mustSend(t, l, 0, []byte("x"))
		if want := [][]byte{sealed(t, side, 1, []byte{1, 0, 1, 'x'})}; !sameBytes(got, want) {
			t.Fatalf("the first frame is %x, want %x", got, want)
		}
		got = mustSend(t, l, 0, text(481))
		want := [][]byte{
			sealed(t, side, 2, append([]byte{2, 0, 2}, text(481)[:480]...)),
			sealed(t, side, 3, append([]byte{2, 1, 2}, text(481)[480])),
		}
		if !sameBytes(got, want) {
			t.Fatalf("the second frame is %x, want %x", got, want)
		}
		if got := mustSend(t, l, 0, nil); !sameBytes(got, [][]byte{sealed(t, side, 4, []byte{4, 0, 1})}) {
			t.Fatalf("a frame without bytes is %x", got)
		}
	}
}

// P12.2: a frame of any length goes as its parts, in order; its number is the nonce of the first one.
func TestSend(t *testing.T) {
	for side := range 2 {
		l, next := mustNew(t, side), uint64(1)
		for _, n := range lengths {
			got := mustSend(t, l, 0, text(n))
			if want := wanted(t, side, next, text(n)); !sameBytes(got, want) {
				t.Fatalf("a frame of %d bytes is %d datagrams otherwise than %d", n, len(got), len(want))
			}
			if len(got) != max(1, (n+479)/480) {
				t.Fatalf("a frame of %d bytes: %d datagrams", n, len(got))
			}
			next += uint64(len(got))
		}
		for _, nonce := range nonces {
			for _, n := range []int{0, 1, 480, 481, 1000, api.MaxFrame} {
				if got := mustSend(t, mustAt(t, side, nonce), 0, text(n)); !sameBytes(got, wanted(t, side, nonce, text(n))) {
					t.Fatalf("a frame of %d bytes from %d on is otherwise", n, nonce)
				}
			}
		}
	}
	if n := len(mustSend(t, mustNew(t, 0), 0, text(500))); n != 2 {
		t.Errorf("a frame of 500 bytes: %d datagrams", n)
	}
}

// P12.2: what is too long is not sent: it takes no nonce, and is no time of sending.
func TestSendTooLong(t *testing.T) {
	l := mustNew(t, 0)
	for _, n := range []int{api.MaxFrame + 1, api.MaxFrame + 480, 65536, 1 << 20} {
		wantErrSend(t, l, 100, text(n), api.ErrLong)
	}
	if !l.Due(20) || l.Due(19) {
		t.Errorf("an error counts as sent")
	}
	wantNext(t, l, 0, 1)
}

// P12.1 and P12.2: closed, if fewer than MaxParts nonces are left up to MaxVint; then nothing is sent, of any length.
func TestClosed(t *testing.T) {
	for _, x := range []struct {
		next uint64
		want bool
	}{
		{1, false}, {2, false}, {1 << 61, false}, {api.MaxVint - 64, false}, {lastOpen, false}, {lastOpen + 1, true}, {api.MaxVint - 1, true},
		{api.MaxVint, true}, {api.MaxVint + 1, true}, {api.MaxVint + 2, true}, {api.MaxVint + 70, true}, {api.MaxNonce - 1, true}, {api.MaxNonce, true},
	} {
		l := mustAt(t, 1, x.next)
		if l.Closed() != x.want {
			t.Errorf("Closed at %d = %v", x.next, l.Closed())
		}
		if !x.want {
			continue
		}
		for _, n := range []int{0, 1, api.MaxFrame, api.MaxFrame + 1, 65536} {
			wantErrSend(t, l, 100, text(n), api.ErrClosed)
		}
		if !l.Due(20) {
			t.Errorf("an error counts as sent")
		}
		if e := l.Skip(x.next); e != api.OK {
			t.Errorf("an error takes a nonce: Skip(%d): %v", x.next, e)
		}
		// It still hears.
		wantWhole(t, l, 6, sealed(t, 0, 9, []byte{9, 0, 1, 5}), []byte{5})
		wantTo(t, l, 6, true)
	}
}

// P12.2: sending closes a link, and no sooner than its nonces end.
func TestSendTillClosed(t *testing.T) {
	l, other := mustAt(t, 0, lastOpen-3), mustNew(t, 1)
	for i := range uint64(4) {
		if l.Closed() {
			t.Fatalf("closed at %d", lastOpen-3+i)
		}
		b := mustSend(t, l, 0, []byte{byte(i)})
		wantWhole(t, other, 1, b[0], []byte{byte(i)})
	}
	if !l.Closed() {
		t.Errorf("not closed")
	}
	wantErrSend(t, l, 0, nil, api.ErrClosed)
	// The longest frame at the last number there may be.
	l, other = mustAt(t, 0, lastOpen), mustNew(t, 1)
	b := mustSend(t, l, 0, text(api.MaxFrame))
	for i := range b[1:] {
		wantHear(t, other, 1, b[i])
	}
	wantWhole(t, other, 1, b[len(b)-1], text(api.MaxFrame))
	if !l.Closed() {
		t.Errorf("not closed behind the last frame")
	}
}

// P12.1: Skip goes on to the next nonce or any above it, never back, as the sealer's does.
func TestSkip(t *testing.T) {
	l := mustNew(t, 0)
	for _, x := range []struct {
		to   uint64
		want api.Errno
	}{
		{0, api.ErrArg}, {1, api.OK}, {1, api.OK}, {7, api.OK}, {6, api.ErrArg}, {7, api.OK}, {api.MaxNonce + 1, api.ErrArg},
		{math.MaxUint64, api.ErrArg}, {0, api.ErrArg},
	} {
		if e := l.Skip(x.to); e != x.want {
			t.Fatalf("Skip(%d): %v, want %v", x.to, e, x.want)
		}
	}
	wantNext(t, l, 0, 7)
	if e := l.Skip(7); e != api.ErrArg {
		t.Errorf("Skip to a nonce that is used: %v", e)
	}
	if e := l.Skip(1000); e != api.OK {
		t.Errorf("Skip: %v", e)
	}
	wantNext(t, l, 0, 1000)
	for _, next := range []uint64{api.MaxVint, api.MaxVint + 1, api.MaxNonce, api.MaxNonce} {
		if e := l.Skip(next); e != api.OK {
			t.Errorf("Skip(%d): %v", next, e)
		}
	}
	if e := l.Skip(api.MaxVint); e != api.ErrArg {
		t.Errorf("Skip back: %v", e)
	}
}

// P12.1: what a frame costs is what it then has, at each length, and wherever its number gets longer.
func TestCost(t *testing.T) {
	for _, nonce := range nonces {
		l := mustAt(t, 0, nonce)
		for _, n := range lengths {
			want := total(wanted(t, 0, nonce, text(n)))
			if got := l.Cost(n); got != want {
				t.Fatalf("Cost(%d) at %d = %d, want %d", n, nonce, got, want)
			}
			if got := max(1, (n+479)/480)*(24+vint.Size(nonce)+2) + n; got != want {
				t.Fatalf("%d bytes at %d have %d as datagrams, want %d", n, nonce, want, got)
			}
		}
		for _, n := range []int{-1, -480, math.MinInt, api.MaxFrame + 1, 65536, math.MaxInt} {
			if got := l.Cost(n); got != 0 {
				t.Fatalf("Cost(%d) = %d", n, got)
			}
		}
	}
	for _, x := range []struct{ n, want int }{{0, 27}, {1, 28}, {480, 507}, {481, 535}, {500, 554}, {24000, 25350}} {
		if got := mustNew(t, 1).Cost(x.n); got != x.want {
			t.Errorf("Cost(%d) of a new link = %d, want %d", x.n, got, x.want)
		}
	}
	// It follows the next nonce: asking takes none, sending does.
	l := mustNew(t, 0)
	for range 200 {
		for _, n := range []int{0, 481} {
			cost := l.Cost(n)
			if got := total(mustSend(t, l, 0, text(n))); got != cost {
				t.Fatalf("Cost(%d) = %d, but %d were sent", n, cost, got)
			}
		}
	}
}

// P12.1: where there is a number left a frame has a cost, though the link is closed; where there is none it has none.
func TestCostAtTheEnd(t *testing.T) {
	for _, nonce := range []uint64{lastOpen, lastOpen + 1, api.MaxVint - 1, api.MaxVint} {
		if got := mustAt(t, 0, nonce).Cost(500); got != 500+2*(24+8+2) {
			t.Errorf("Cost(500) at %d = %d", nonce, got)
		}
	}
	for _, nonce := range []uint64{api.MaxVint + 1, api.MaxVint + 2, api.MaxNonce} {
		for _, n := range []int{0, 1, 500, api.MaxFrame} {
			if got := mustAt(t, 0, nonce).Cost(n); got != 0 {
				t.Errorf("Cost(%d) at %d = %d", n, nonce, got)
			}
		}
	}
}

// P12.1 and P12.2: due is Beat above the greatest time at which it sent.
func TestDue(t *testing.T) {
	l, last := mustNew(t, 0), 0
	for _, now := range []int{math.MinInt, -1, 0, 1, 19, 5, 20, 20, 3, 1 << 40, 7, -1 << 40, math.MaxInt - 20, math.MaxInt - 19, 0, math.MaxInt, math.MinInt} {
		mustSend(t, l, now, nil)
		last = max(last, now)
		for _, at := range []int{math.MinInt, math.MinInt + 20, -20, -1, 0, 1, 19, 20, 21, 1 << 40, math.MaxInt - 1, math.MaxInt} {
			if got, want := l.Due(at), at >= last && uint64(at)-uint64(last) >= 20; got != want {
				t.Fatalf("Due(%d) behind %d = %v", at, last, got)
			}
		}
		for d := range 25 {
			if at := last + d; at >= last && l.Due(at) != (d >= 20) || l.Due(last-d) {
				t.Fatalf("Due(%d) behind %d = %v", at, last, l.Due(at))
			}
		}
	}
	// Hearing is no sending.
	l = mustNew(t, 0)
	wantWhole(t, l, 1, sealed(t, 1, 1, []byte{1, 0, 1}), nil)
	if l.Due(19) || !l.Due(20) {
		t.Errorf("Due behind Hear = %v, %v", l.Due(19), l.Due(20))
	}
}

// P2, P12.3: there and back, both ways, frames of all lengths, at all numbers.
func TestThereAndBack(t *testing.T) {
	for side := range 2 {
		for _, nonce := range nonces {
			l, other := mustAt(t, side, nonce), mustNew(t, 1-side)
			for _, n := range lengths {
				if l.Closed() {
					break
				}
				b := mustSend(t, l, 0, text(n))
				for i := range b[1:] {
					wantHear(t, other, 5, b[i])
				}
				wantWhole(t, other, 5, b[len(b)-1], text(n))
			}
			wantTo(t, other, 5, true)
			wantTo(t, l, 0, false)
		}
	}
}

// P12.3: Open's errors come first, and change nothing.
func TestErrorsOfOpen(t *testing.T) {
	l := mustNew(t, 0)
	b := wanted(t, 1, 7, text(600))
	wantHear(t, l, 4, b[0])
	for _, x := range []struct {
		b    []byte
		want api.Errno
	}{
		{nil, api.ErrShort}, {[]byte{}, api.ErrShort}, {b[1][:23], api.ErrShort}, {make([]byte, 24), api.ErrTag}, {b[1][:24], api.ErrTag},
		{b[1][:len(b[1])-1], api.ErrTag}, {append(bytes.Clone(b[1]), 0), api.ErrTag}, {make([]byte, api.MaxPlain+24), api.ErrTag},
		{make([]byte, api.MaxPlain+25), api.ErrLong}, {make([]byte, 1<<20), api.ErrLong},
		{wanted(t, 0, 8, nil)[0], api.ErrSide}, {mustSend(t, l, 0, nil)[0], api.ErrSide},
	} {
		wantErrHear(t, l, 99, x.b, x.want)
		wantTo(t, l, 4, true)
	}
	wantWhole(t, l, 4, b[1], text(600))
}

// P12.3: the peer's errors come next, ahead of Read's and Put's: a nonce that was heard, or is too far below.
func TestErrorsOfPeer(t *testing.T) {
	l := mustNew(t, 0)
	bad := []byte{9, 1}
	wantErrHear(t, l, 1, sealed(t, 1, 200, bad), api.ErrShort)
	for _, plain := range [][]byte{bad, nil, {200, 0, 1}, {1, 0, 1, 2}} {
		for _, nonce := range []uint64{200, 136, 135, 1} {
			wantErrHear(t, l, 2, sealed(t, 1, nonce, plain), api.ErrOld)
			wantTo(t, l, 1, true)
		}
	}
	// What the peer refuses is not put together: the part is not there.
	part := []byte{50, 0, 2}
	part = append(part, text(480)...)
	wantErrHear(t, l, 2, sealed(t, 1, 136, part), api.ErrOld)
	wantHear(t, l, 2, sealed(t, 1, 137, []byte{50, 1, 2, 3}))
	wantTo(t, l, 1, true)
	wantWhole(t, l, 2, sealed(t, 1, 138, part), append(text(480), 3))
}

// P12.3: of Read's errors the peer heard all the same: the nonce is taken, and the address known.
func TestErrorsOfRead(t *testing.T) {
	for _, x := range []struct {
		plain []byte
		want  api.Errno
	}{
		{nil, api.ErrShort}, {[]byte{64}, api.ErrShort}, {[]byte{192, 0, 0, 0, 0, 0, 0}, api.ErrShort}, {[]byte{64, 1}, api.ErrForm},
		{[]byte{64, 1, 0, 1}, api.ErrForm}, {[]byte{1}, api.ErrShort}, {[]byte{1, 0}, api.ErrShort}, {[]byte{0, 0, 1}, api.ErrForm},
		{[]byte{1, 0, 0}, api.ErrForm}, {[]byte{1, 1, 1}, api.ErrForm}, {[]byte{1, 0, 65}, api.ErrForm}, {[]byte{1, 0, 2, 7}, api.ErrForm},
		{[]byte{1, 1, 2}, api.ErrForm}, {append([]byte{1, 0, 1}, text(481)...), api.ErrForm}, {text(api.MaxPlain), api.ErrForm},
	} {
		l := mustNew(t, 0)
		if _, e := frag.Read(x.plain); e != x.want {
			t.Fatalf("Read(%v): %v, want %v", x.plain, e, x.want)
		}
		wantErrHear(t, l, 3, sealed(t, 1, 9, x.plain), x.want)
		wantTo(t, l, 3, true)
		wantErrHear(t, l, 4, sealed(t, 1, 9, []byte{1, 0, 1}), api.ErrOld)
		wantErrHear(t, l, 5, sealed(t, 1, 8, x.plain), x.want)
		wantTo(t, l, 3, true)
		wantErrHear(t, l, 5, sealed(t, 1, 10, x.plain), x.want)
		wantTo(t, l, 5, true)
		wantWhole(t, l, 6, sealed(t, 1, 11, []byte{1, 0, 1, 8}), []byte{8})
	}
}

// P12.3: of Put's errors the peer heard all the same.
func TestErrorsOfPut(t *testing.T) {
	l, nonce := mustNew(t, 0), uint64(100)
	hear := func(id uint64, index, count int, want api.Errno) {
		t.Helper()
		data := text(480)
		if index == count-1 {
			data = data[:5]
		}
		plain, e := frag.Write(frag.Part{ID: id, Index: index, Count: count, Data: data})
		if e != api.OK {
			t.Fatalf("Write: %v", e)
		}
		nonce++
		b := sealed(t, 1, nonce, plain)
		wantErrHear(t, l, uint32(nonce), b, want)
		wantTo(t, l, uint32(nonce), true)
		wantErrHear(t, l, 1, b, api.ErrOld)
	}
	hear(20, 0, 3, api.OK)
	hear(20, 0, 3, api.ErrState)
	hear(20, 0, 4, api.ErrArg)
	hear(20, 1, 2, api.ErrArg)
	for _, id := range []uint64{10, 30, 40} {
		hear(id, 1, 3, api.OK)
	}
	hear(9, 0, 1, api.ErrFull)
	hear(9, 0, 2, api.ErrFull)
	hear(11, 0, 2, api.OK)
	hear(10, 1, 3, api.ErrOld)
	hear(10, 0, 1, api.ErrOld)
	nonce++
	wantWhole(t, l, 1, sealed(t, 1, nonce, []byte{25, 0, 1, 7}), []byte{7})
	hear(25, 0, 1, api.ErrOld)
	hear(20, 1, 3, api.ErrOld)
	hear(30, 0, 3, api.OK)
}

// A datagram that is doubled is ErrOld, and its frame is told once.
func TestDoubled(t *testing.T) {
	for _, n := range lengths {
		l, other := mustNew(t, 0), mustNew(t, 1)
		b := mustSend(t, l, 0, text(n))
		for i, d := range b {
			if i == len(b)-1 {
				wantWhole(t, other, 1, d, text(n))
			} else {
				wantHear(t, other, 1, d)
			}
			for range 2 {
				wantErrHear(t, other, 2, d, api.ErrOld)
			}
		}
		for _, d := range b {
			wantErrHear(t, other, 2, d, api.ErrOld)
		}
		wantTo(t, other, 1, true)
	}
}

// The address is that of the greatest nonce, as the peer has it, and is told by the promoted calls, too.
func TestAddress(t *testing.T) {
	l, other := mustNew(t, 1), mustNew(t, 0)
	var all [][]byte
	for range 4 {
		all = append(all, mustSend(t, l, 0, nil)...)
	}
	wantWhole(t, other, 10, all[1], nil)
	wantTo(t, other, 10, true)
	// A frame behind the one that was told is old, but its datagram is heard.
	wantErrHear(t, other, 11, all[0], api.ErrOld)
	wantTo(t, other, 10, true)
	wantWhole(t, other, 0, all[3], nil)
	wantTo(t, other, 0, true)
	wantErrHear(t, other, 12, all[2], api.ErrOld)
	wantTo(t, other, 0, true)
	if from, ok := other.From(); from != 0 || !ok || other.Newest() != 4 || other.Moves() != 1 || !other.Heard(3) || other.Heard(5) {
		t.Errorf("From = %d, %v, Newest = %d, Moves = %d", from, ok, other.Newest(), other.Moves())
	}
}

// P9, P12.4: any bit that is turned makes a datagram that changes nothing: it is not heard, and no part of it is kept.
func TestForged(t *testing.T) {
	l := mustNew(t, 0)
	first, second := wanted(t, 1, 5, text(600)), wanted(t, 1, 7, text(20))
	wantHear(t, l, 4, first[0])
	for _, d := range [][]byte{first[1], second[0]} {
		for i := range 8 * len(d) {
			forged := bytes.Clone(d)
			forged[i/8] ^= 1 << (i % 8)
			wantErrHear(t, l, uint32(1000+i), forged, api.ErrTag)
			wantTo(t, l, 4, true)
			if l.Newest() != 5 || l.Moves() != 0 || l.Heard(6) || l.Heard(7) {
				t.Fatalf("a forged datagram is heard: Newest = %d, Moves = %d", l.Newest(), l.Moves())
			}
		}
	}
	// Of another secret, too; and nothing of it was put into the frame, which is as it was sent.
	foreign, e := link.New([]byte("another secret"), 1)
	if e != api.OK || foreign.Skip(6) != api.OK {
		t.Fatalf("New: %v", e)
	}
	for _, d := range mustSend(t, foreign, 0, text(3000)) {
		wantErrHear(t, l, 77, d, api.ErrTag)
	}
	wantTo(t, l, 4, true)
	wantWhole(t, l, 4, first[1], text(600))
	wantWhole(t, l, 9, second[0], text(20))
	wantTo(t, l, 9, true)
}

// P12.4: a link that heard nothing knows no address, whatever is forged.
func TestForgedFirst(t *testing.T) {
	l := mustNew(t, 1)
	r := rand.New(rand.NewSource(1))
	for n := range 700 {
		b := make([]byte, n)
		r.Read(b)
		want := api.ErrTag
		switch {
		case n < 24:
			want = api.ErrShort
		case n > 536:
			want = api.ErrLong
		}
		wantErrHear(t, l, 8, b, want)
		wantTo(t, l, 0, false)
	}
	b := wanted(t, 0, 1, text(700))
	wantHear(t, l, 2, b[0])
	wantWhole(t, l, 2, b[1], text(700))
}

// flying is a datagram on its way: the number of its frame among those that were sent, and its nonce.
type flying struct {
	frame int
	nonce uint64
	b     []byte
}

// mayCome tells whether it may come next: its frame is one of the first four that are on the way, none on the way is then
// too far below it, and it is not its frame's last one while an earlier frame's are on the way.
func mayCome(x flying, rest []flying) bool {
	if x.frame >= rest[0].frame+join.Open {
		return false
	}
	same := 0
	for _, y := range rest {
		if y.nonce+64 <= x.nonce {
			return false
		}
		if y.frame == x.frame {
			same++
		}
	}
	return same > 1 || x.frame == rest[0].frame
}

// P12.5: in whatever order they come, and however often, if all of one frame's come ahead of a later one's last.
func TestAnyOrder(t *testing.T) {
	crossed := 0
	for seed := range int64(60) {
		r := rand.New(rand.NewSource(seed))
		l, other := mustNew(t, 0), mustNew(t, 1)
		var frames [][]byte
		var rest, came []flying
		nonce := uint64(1)
		for i := range 12 {
			frames = append(frames, text(r.Intn(5000)))
			if i == 3 {
				frames[i] = text(api.MaxFrame)
			}
			for _, b := range mustSend(t, l, i, frames[i]) {
				rest = append(rest, flying{i, nonce, b})
				nonce++
			}
		}
		told := 0
		for len(rest) > 0 {
			at := r.Intn(len(rest))
			for !mayCome(rest[at], rest) {
				at = r.Intn(len(rest))
			}
			x := rest[at]
			if x.frame > rest[0].frame {
				crossed++
			}
			rest = slices.Delete(rest, at, at+1)
			frame, ok, e := other.Hear(uint32(x.nonce), x.b)
			last := !slices.ContainsFunc(rest, func(y flying) bool { return y.frame == x.frame })
			if e != api.OK || ok != last || ok && !bytes.Equal(frame, frames[x.frame]) {
				t.Fatalf("Hear of %d, a part of the frame %d = %d bytes, %v, %v", x.nonce, x.frame, len(frame), ok, e)
			}
			if ok {
				if told != x.frame {
					t.Fatalf("the frame %d is told behind %d frames", x.frame, told)
				}
				told++
			}
			came = append(came, x)
			wantErrHear(t, other, 1, came[r.Intn(len(came))].b, api.ErrOld)
		}
		if told != len(frames) {
			t.Fatalf("%d frames are told, of %d", told, len(frames))
		}
	}
	if crossed < 500 {
		t.Errorf("only %d datagrams came ahead of an earlier frame's", crossed)
	}
}

// P12.5: the longest frame, its datagrams backwards and in any order.
func TestLongestFrame(t *testing.T) {
	for seed := range int64(20) {
		l, other := mustAt(t, 1, 1<<uint(2*seed)), mustNew(t, 0)
		b := mustSend(t, l, 0, text(api.MaxFrame))
		if len(b) != 50 {
			t.Fatalf("%d datagrams", len(b))
		}
		slices.Reverse(b)
		if seed > 0 {
			rand.New(rand.NewSource(seed)).Shuffle(len(b), func(i, j int) { b[i], b[j] = b[j], b[i] })
		}
		for _, d := range b[:49] {
			wantHear(t, other, 1, d)
		}
		wantWhole(t, other, 1, b[49], text(api.MaxFrame))
	}
}

// P12.3: what comes 64 nonces late is not heard, and its frame is never whole; one nonce earlier it is in time.
func TestTooLate(t *testing.T) {
	l := mustNew(t, 0)
	early := mustSend(t, l, 0, text(481))
	var later [][]byte
	for range 32 {
		later = append(later, mustSend(t, l, 0, text(481))...)
	}
	// Those have the nonces 1 and 2, these go on from 3.
	other := mustNew(t, 1)
	wantHear(t, other, 1, early[0])
	wantHear(t, other, 1, later[66-3])
	wantErrHear(t, other, 1, early[1], api.ErrOld)
	other = mustNew(t, 1)
	wantHear(t, other, 1, early[0])
	wantHear(t, other, 1, later[65-3])
	wantWhole(t, other, 1, early[1], text(481))
}

// What is lost does no harm to the frames behind it.
func TestLost(t *testing.T) {
	r := rand.New(rand.NewSource(3))
	l, other := mustNew(t, 0), mustNew(t, 1)
	whole := 0
	for i := range 500 {
		frame := text(r.Intn(2500))
		b := mustSend(t, l, i, frame)
		lost := -1
		if r.Intn(2) == 0 {
			lost = r.Intn(len(b))
		}
		for j, d := range b {
			switch {
			case j == lost:
			case j == len(b)-1 && lost < 0:
				wantWhole(t, other, 1, d, frame)
				whole++
			default:
				wantHear(t, other, 1, d)
			}
		}
	}
	if whole < 100 || whole > 400 {
		t.Errorf("%d frames are whole", whole)
	}
}

// turn changes every byte of b and of the room behind it.
func turn(b []byte) {
	b = b[:cap(b)]
	for i := range b {
		b[i] ^= 255
	}
}

// Rules 4 and 5: what is handed in is not changed and not kept, what lies behind it is left alone, and what is handed
// out is new.
func TestMemory(t *testing.T) {
	given := text(2000)
	l, e := link.New(given[:20], 0)
	other, e2 := link.New(given[:20:20], 1)
	if e != api.OK || e2 != api.OK {
		t.Fatal(e, e2)
	}
	b := mustSend(t, l, 0, given[30:1030])
	if !bytes.Equal(given, text(2000)) {
		t.Fatalf("Send changes what it was given")
	}
	turn(given)
	for i, d := range b {
		roomy := append(bytes.Clone(d), 1, 2, 3)
		was := bytes.Clone(roomy)
		frame, ok, e := other.Hear(1, roomy[:len(d)])
		if e != api.OK || ok != (i == 2) || !bytes.Equal(roomy, was) {
			t.Fatalf("Hear reads behind a length, or changes what it was given: %v, %v", ok, e)
		}
		turn(roomy)
		if ok && !bytes.Equal(frame, text(2000)[30:1030]) {
			t.Fatalf("what was handed in is kept")
		}
		turn(frame)
	}
	// Each datagram has memory of its own, with no room that reaches another one's.
	b = mustSend(t, l, 0, text(1000))
	kept := [][]byte{bytes.Clone(b[0]), bytes.Clone(b[2])}
	turn(b[1])
	if !sameBytes([][]byte{b[0], b[2]}, kept) {
		t.Errorf("datagrams share memory")
	}
	turn(b[1])
	for i, d := range b {
		frame, ok, e := other.Hear(1, d)
		if e != api.OK || ok != (i == 2) || ok && !bytes.Equal(frame, text(1000)) {
			t.Fatalf("Hear = %d bytes, %v, %v", len(frame), ok, e)
		}
		// A part that waits has nothing of its datagram's memory.
		turn(d)
	}
}

// Links side by side have nothing in common.
func TestSideBySide(t *testing.T) {
	a, b := mustNew(t, 0), mustNew(t, 0)
	d := wanted(t, 1, 1, text(600))
	wantHear(t, a, 1, d[0])
	wantTo(t, b, 0, false)
	wantHear(t, b, 2, d[1])
	wantWhole(t, a, 3, d[1], text(600))
	wantTo(t, a, 3, true)
	wantTo(t, b, 2, true)
	mustSend(t, a, 100, text(600))
	if a.Due(119) || !a.Due(120) || !b.Due(20) {
		t.Errorf("another one's time of sending")
	}
	wantNext(t, b, 0, 1)
	wantNext(t, a, 0, 3)
	wantWhole(t, b, 2, d[0], text(600))
}

// P9, P12.3, any datagrams: right, forged, doubled, badly formed, held against what the layers below say of them.
func TestAnyDatagrams(t *testing.T) {
	seen := map[api.Errno]int{}
	for seed := range int64(60) {
		r := rand.New(rand.NewSource(seed))
		l, table, heard := mustNew(t, 0), join.New(), map[uint64]int{}
		opener, _ := seal.New(secret, 0)
		var newest uint64
		var from uint32
		for range 200 {
			b := anyDatagram(t, r, newest)
			at := uint32(r.Intn(4))
			frame, ok, e := l.Hear(at, b)
			seen[e]++
			nonce, plain, want := opener.Open(b)
			var wantFrame []byte
			var wantOK bool
			switch {
			case want != api.OK:
			case heard[nonce] > 0 || nonce+64 <= newest:
				want = api.ErrOld
			default:
				heard[nonce]++
				if nonce > newest {
					newest, from = nonce, at
				}
				var p frag.Part
				if p, want = frag.Read(plain); want == api.OK {
					wantFrame, wantOK, want = table.Put(p)
				}
			}
			if e != want || ok != wantOK || !bytes.Equal(frame, wantFrame) {
				t.Fatalf("Hear = %d bytes, %v, %v, want %d, %v, %v", len(frame), ok, e, len(wantFrame), wantOK, want)
			}
			wantTo(t, l, from, newest > 0)
		}
	}
	for _, e := range []api.Errno{api.OK, api.ErrShort, api.ErrTag, api.ErrSide, api.ErrOld, api.ErrForm, api.ErrArg, api.ErrState, api.ErrFull} {
		if seen[e] < 20 {
			t.Errorf("%v was answered %d times", e, seen[e])
		}
	}
}

// anyDatagram is mostly a part of one of a few frames, with a nonce about the greatest one.
func anyDatagram(t *testing.T, r *rand.Rand, newest uint64) []byte {
	nonce := max(newest, 70) + 5 - uint64(r.Intn(75))
	if r.Intn(3) > 0 {
		nonce = newest + 1
	}
	id := 1 + newest/8 + uint64(r.Intn(9))
	count := 2 + int(id%3)
	if r.Intn(10) == 0 {
		count++
	}
	index := r.Intn(count)
	data := text(480)
	if index == count-1 {
		data = data[:1+r.Intn(9)]
	}
	plain, e := frag.Write(frag.Part{ID: id, Index: index, Count: count, Data: data})
	if e != api.OK {
		t.Fatalf("Write: %v", e)
	}
	switch r.Intn(20) {
	case 0:
		plain = plain[:r.Intn(3)]
	case 1:
		plain[1] = byte(count)
	case 2:
		return sealed(t, 0, nonce, plain)
	}
	b := sealed(t, 1, nonce, plain)
	switch r.Intn(20) {
	case 0:
		b[r.Intn(len(b))] ^= 1 << r.Intn(8)
	case 1:
		b = b[:r.Intn(len(b))]
	}
	return b
}

// Rule 7: the same calls have the same answers, however often.
func TestSameAgain(t *testing.T) {
	for seed := range int64(10) {
		var first []api.Errno
		for again := range 3 {
			r := rand.New(rand.NewSource(seed))
			l := mustNew(t, 0)
			for i := range 150 {
				_, _, e := l.Hear(uint32(r.Intn(3)), anyDatagram(t, r, l.Newest()))
				if again == 0 {
					first = append(first, e)
				} else if e != first[i] {
					t.Fatalf("%v, and then %v", first[i], e)
				}
			}
		}
	}
}
