package frag_test

import (
	"bytes"
	"encoding/binary"
	"math"
	"math/rand"
	"slices"
	"testing"

	"longline/api"
	"longline/frag"
)

// ids are those that may be, at the edges of how many bytes their numbers have.
var ids = []uint64{1, 2, 63, 64, 300, 16383, 16384, 1<<30 - 1, 1 << 30, 1 << 40, api.MaxVint - 1, api.MaxVint}

var wrongIDs = []uint64{0, api.MaxVint + 1, api.MaxVint + 2, 1 << 63, 1<<63 + 1, math.MaxUint64}

// sizes are those of frames around the ends of parts, and the limit.
var sizes = []int{0, 1, 2, 479, 480, 481, 500, 959, 960, 961, 1000, 4800, 23520, 23521, api.MaxFrame - 1, api.MaxFrame}

// text is n bytes, always the same ones.
func text(n int) []byte {
	b := make([]byte, n)
	rand.New(rand.NewSource(int64(n))).Read(b)
	return b
}

func part(id uint64, index, count int, data []byte) frag.Part {
	return frag.Part{ID: id, Index: index, Count: count, Data: data}
}

// number is a number's bytes, written otherwise than by vint.
func number(v uint64) []byte {
	switch {
	case v < 1<<6:
		return []byte{byte(v)}
	case v < 1<<14:
		return binary.BigEndian.AppendUint16(nil, uint16(v)|1<<14)
	case v < 1<<30:
		return binary.BigEndian.AppendUint32(nil, uint32(v)|1<<31)
	}
	return binary.BigEndian.AppendUint64(nil, v|3<<62)
}

// written is a part's bytes as the document words them, whether or not it may be.
func written(p frag.Part) []byte {
	return slices.Concat(number(p.ID), []byte{byte(p.Index), byte(p.Count)}, p.Data)
}

func samePart(a, b frag.Part) bool {
	return a.ID == b.ID && a.Index == b.Index && a.Count == b.Count && bytes.Equal(a.Data, b.Data)
}

// mayBe is whether a part may be, clause by clause.
func mayBe(p frag.Part) bool {
	if p.ID == 0 || p.ID > 1<<62-1 || p.Count < 1 || p.Count > 64 || p.Index < 0 || p.Index >= p.Count {
		return false
	}
	n := len(p.Data)
	if n > 480 || n == 0 && p.Count != 1 {
		return false
	}
	return n == 480 || p.Index == p.Count-1
}

func wantRight(t *testing.T, p frag.Part, want bool) {
	t.Helper()
	if frag.Right(p) != want {
		t.Errorf("Right of %d, %d of %d, %d bytes is %v", p.ID, p.Index, p.Count, len(p.Data), !want)
	}
}

func wantRead(t *testing.T, b []byte, want frag.Part) {
	t.Helper()
	if p, e := frag.Read(b); e != api.OK || !samePart(p, want) {
		t.Errorf("Read of %d bytes = %v, %v, want %v", len(b), p, e, want)
	}
}

func wantReadError(t *testing.T, b []byte, want api.Errno) {
	t.Helper()
	if p, e := frag.Read(b); e != want || !samePart(p, frag.Part{}) || len(p.Data) != 0 {
		t.Errorf("Read(%v) = %v, %v, want %v", b[:min(len(b), 20)], p, e, want)
	}
}

func wantJoinError(t *testing.T, l []frag.Part, want api.Errno) {
	t.Helper()
	if b, e := frag.Join(l); e != want || len(b) != 0 {
		t.Errorf("Join of %d parts = %d bytes, %v, want %v", len(l), len(b), e, want)
	}
}

func wantSplitError(t *testing.T, id uint64, frame []byte, want api.Errno) {
	t.Helper()
	if l, e := frag.Split(id, frame); e != want || len(l) != 0 {
		t.Errorf("Split(%d) of %d bytes = %d parts, %v, want %v", id, len(frame), len(l), e, want)
	}
}

func mustSplit(t *testing.T, id uint64, frame []byte) []frag.Part {
	t.Helper()
	l, e := frag.Split(id, frame)
	if e != api.OK {
		t.Fatalf("Split(%d) of %d bytes: %v", id, len(frame), e)
	}
	return l
}

// P9.1: what each clause asks, at its edges.
func TestRight(t *testing.T) {
	full := text(480)
	for _, id := range ids {
		wantRight(t, part(id, 0, 1, full[:9]), true)
		wantRight(t, part(id, 0, 2, full), true)
	}
	for _, id := range wrongIDs {
		wantRight(t, part(id, 0, 1, full[:9]), false)
		wantRight(t, part(id, 0, 2, full), false)
	}
	for _, x := range []struct {
		index, count, n int
		want            bool
	}{
		{0, 1, 0, true}, {0, 1, 1, true}, {0, 1, 479, true}, {0, 1, 480, true}, {0, 1, 481, false}, {0, 1, 960, false},
		{0, 2, 480, true}, {0, 2, 479, false}, {0, 2, 481, false}, {0, 2, 1, false}, {0, 2, 0, false},
		{1, 2, 480, true}, {1, 2, 479, true}, {1, 2, 1, true}, {1, 2, 0, false}, {1, 2, 481, false},
		{1, 3, 480, true}, {1, 3, 479, false}, {1, 3, 0, false}, {2, 3, 7, true}, {2, 3, 0, false},
		{0, 64, 480, true}, {62, 64, 480, true}, {62, 64, 479, false}, {63, 64, 480, true}, {63, 64, 1, true}, {63, 64, 0, false},
		{49, 50, 480, true}, {50, 51, 480, true},
		{64, 64, 480, false}, {0, 65, 480, false}, {64, 65, 480, false}, {64, 65, 1, false}, {255, 256, 1, false},
		{1, 1, 0, false}, {1, 1, 480, false}, {2, 1, 480, false}, {2, 2, 480, false}, {3, 2, 480, false},
		{0, 0, 0, false}, {0, 0, 480, false}, {-1, 0, 0, false}, {-1, 1, 0, false}, {-1, 1, 480, false}, {-1, 2, 480, false},
		{0, -1, 480, false}, {-2, -1, 0, false}, {-1, -1, 0, false},
	} {
		wantRight(t, part(7, x.index, x.count, text(x.n)), x.want)
	}
	wantRight(t, frag.Part{}, false)
	wantRight(t, frag.Part{ID: 1, Count: 1}, true)
	wantRight(t, part(1, 0, 1, []byte{}), true)
}

// P9.1: places and counts at all edges, and of numbers that no byte has.
func TestRightAtAnyPlaces(t *testing.T) {
	places := []int{math.MinInt, math.MinInt + 1, math.MinInt32, -257, -256, -255, -2, -1, 0, 1, 2, 48, 49, 50, 51, 62, 63, 64, 65,
		127, 128, 255, 256, 257, 319, 320, 1 << 32, 1<<32 + 1, math.MaxInt32, math.MaxInt - 1, math.MaxInt}
	right := 0
	for _, count := range places {
		for _, index := range places {
			for _, n := range []int{0, 1, 479, 480, 481, 1000} {
				p := part(5, index, count, text(n))
				wantRight(t, p, mayBe(p))
				if mayBe(p) {
					right++
					continue
				}
				if b, e := frag.Write(p); e != api.ErrForm || len(b) != 0 {
					t.Errorf("Write of %d of %d, %d bytes = %d bytes, %v", index, count, n, len(b), e)
				}
				wantJoinError(t, []frag.Part{p}, api.ErrForm)
			}
		}
	}
	if right == 0 {
		t.Error("no part was right")
	}
}

// P9.1: a part's bytes, and the part that they are.
func TestWriteAndRead(t *testing.T) {
	for _, x := range []struct {
		p frag.Part
		b []byte
	}{
		{part(1, 0, 1, nil), []byte{1, 0, 1}},
		{part(300, 0, 1, []byte{9, 8}), []byte{65, 44, 0, 1, 9, 8}},
		{part(64, 1, 2, []byte{0}), []byte{64, 64, 1, 2, 0}},
		{part(16384, 63, 64, []byte{255}), []byte{128, 0, 64, 0, 63, 64, 255}},
		{part(api.MaxVint, 0, 1, []byte{7}), []byte{255, 255, 255, 255, 255, 255, 255, 255, 0, 1, 7}},
	} {
		if b, e := frag.Write(x.p); e != api.OK || !bytes.Equal(b, x.b) {
			t.Errorf("Write(%v) = %v, %v, want %v", x.p, b, e, x.b)
		}
		wantRead(t, x.b, x.p)
	}
}

// P9.1 and P9.3: all places of all counts, there and back.
func TestPartsThereAndBack(t *testing.T) {
	data := text(frag.Most)
	for _, id := range ids {
		for count := 1; count <= api.MaxParts; count++ {
			for index := range count {
				n := frag.Most
				if index == count-1 {
					n = 1 + (count*37+int(id%97))%frag.Most
				}
				p := part(id, index, count, data[:n])
				b, e := frag.Write(p)
				if e != api.OK || !bytes.Equal(b, written(p)) {
					t.Fatalf("Write of %d, %d of %d: %v", id, index, count, e)
				}
				wantRead(t, b, p)
			}
		}
		for n := range frag.Most + 1 {
			p := part(id, 0, 1, data[:n])
			wantRead(t, written(p), p)
			if n > 0 {
				p = part(id, 2, 3, data[:n])
				wantRead(t, written(p), p)
			}
		}
	}
}

func TestWriteWrong(t *testing.T) {
	for _, id := range wrongIDs {
		if b, e := frag.Write(part(id, 0, 1, text(3))); e != api.ErrForm || len(b) != 0 {
			t.Errorf("Write of the number %d = %v, %v", id, b, e)
		}
	}
	for _, p := range []frag.Part{
		{}, part(1, 0, 2, nil), part(1, 1, 2, nil), part(1, 0, 2, text(479)), part(1, 0, 1, text(481)),
		part(1, 1, 1, nil), part(1, 0, 65, text(480)), part(1, 256, 257, text(480)), part(1, 0, 257, nil), part(1, -256, 1, nil),
	} {
		if b, e := frag.Write(p); e != api.ErrForm || len(b) != 0 {
			t.Errorf("Write of %d of %d, %d bytes = %v, %v", p.Index, p.Count, len(p.Data), b, e)
		}
	}
}

// P9.1: the number's error is the first one, then what is missing, then what may not be.
func TestReadErrors(t *testing.T) {
	for _, id := range append([]uint64{0}, ids...) {
		whole := append(number(id), 0, 1)
		for n := range len(whole) {
			wantReadError(t, whole[:n:n], api.ErrShort)
		}
		// Index may not be, but Count is missing.
		wantReadError(t, append(number(id), 255), api.ErrShort)
	}
	wantReadError(t, nil, api.ErrShort)
	wantReadError(t, []byte{}, api.ErrShort)
	for _, b := range [][]byte{
		{64, 1}, {64, 1, 0}, {64, 63, 0, 1}, {128, 0, 0, 1, 0, 1, 7}, {128, 0, 63, 255, 0, 1}, {192, 0, 0, 0, 0, 0, 0, 1, 0, 1},
		{192, 0, 0, 0, 63, 255, 255, 255, 0, 1, 7},
		{0, 0, 1}, {0, 0, 1, 7}, {64, 0, 0, 1}, {1, 0, 0}, {1, 1, 0}, {1, 1, 1}, {1, 2, 1, 7}, {1, 0, 2}, {1, 1, 2}, {1, 0, 2, 7},
		{1, 64, 64, 7}, {1, 64, 65, 7}, {1, 0, 65}, {1, 255, 255, 7}, {1, 254, 255, 7}, {1, 255, 0, 7}, {1, 0, 129}, {1, 128, 129, 7},
	} {
		wantReadError(t, b, api.ErrForm)
	}
	for _, p := range []frag.Part{
		part(7, 0, 1, text(481)), part(7, 0, 1, text(65536)), part(7, 0, 2, text(479)), part(7, 0, 2, text(481)), part(7, 1, 2, text(481)),
		part(7, 0, 65, text(480)), part(7, 62, 64, text(479)), part(7, 63, 64, text(481)), part(7, 64, 64, text(480)), part(0, 0, 2, text(480)),
	} {
		wantReadError(t, written(p), api.ErrForm)
	}
	for _, id := range ids {
		wantRead(t, written(part(id, 0, 1, text(480))), part(id, 0, 1, text(480)))
		wantReadError(t, written(part(id, 0, 1, text(481))), api.ErrForm)
	}
}

// P9.1: each Index and each Count that bytes can say.
func TestReadAnyPlaces(t *testing.T) {
	data := text(480)
	for count := range 256 {
		for index := range 256 {
			for _, n := range []int{0, 3, 480} {
				p := part(9, index, count, data[:n])
				if mayBe(p) {
					wantRead(t, written(p), p)
				} else {
					wantReadError(t, written(p), api.ErrForm)
				}
			}
		}
	}
}

// P9.3: bytes that are read are those that would be written: there is no other way to say the part.
func TestOneWayAlone(t *testing.T) {
	r := rand.New(rand.NewSource(3))
	read := 0
	for range 200000 {
		b := make([]byte, r.Intn(14))
		r.Read(b)
		if len(b) > 3 && r.Intn(2) == 0 {
			// So that many of them may be.
			b[0] = byte(r.Intn(3) * 64)
			at := 1 << (b[0] >> 6)
			if at+1 < len(b) {
				b[at], b[at+1] = byte(r.Intn(3)), byte(r.Intn(3))
			}
		}
		p, e := frag.Read(b)
		if e != api.OK {
			wantReadError(t, b, e)
			continue
		}
		read++
		again, e := frag.Write(p)
		if !frag.Right(p) || e != api.OK || !bytes.Equal(again, b) {
			t.Fatalf("Read(%v) = %v, which is written as %v, %v", b, p, again, e)
		}
	}
	if read < 1000 {
		t.Errorf("only %d were read", read)
	}
}

// P9.2: how many parts frames of all sizes have, counted one by one.
func TestCount(t *testing.T) {
	if frag.Most != 480 {
		t.Errorf("Most = %d", frag.Most)
	}
	want := 1
	for n := range api.MaxFrame + 1 {
		if n > want*480 {
			want++
		}
		if got := frag.Count(n); got != want {
			t.Fatalf("Count(%d) = %d, want %d", n, got, want)
		}
	}
	if want != 50 {
		t.Errorf("the greatest frame has %d parts", want)
	}
	for _, x := range []struct{ n, want int }{
		{0, 1}, {1, 1}, {480, 1}, {481, 2}, {960, 2}, {961, 3}, {24000, 50}, {24001, 0}, {24002, 0}, {30720, 0},
		{-1, 0}, {-480, 0}, {math.MinInt, 0}, {math.MinInt + 1, 0}, {math.MaxInt, 0}, {math.MaxInt - 479, 0}, {1 << 32, 0},
	} {
		if got := frag.Count(x.n); got != x.want {
			t.Errorf("Count(%d) = %d, want %d", x.n, got, x.want)
		}
	}
}

// P9.2: each part has its place, and its bytes of the frame.
func TestSplit(t *testing.T) {
	for _, id := range ids {
		for _, n := range sizes {
			frame := text(n)
			l := mustSplit(t, id, frame)
			if len(l) != frag.Count(n) {
				t.Fatalf("a frame of %d bytes has %d parts", n, len(l))
			}
			for i, p := range l {
				want := part(id, i, len(l), frame[480*i:min(480*i+480, n)])
				if !samePart(p, want) || !frag.Right(p) {
					t.Fatalf("the part %d of %d bytes: %d, %d of %d, %d bytes", i, n, p.ID, p.Index, p.Count, len(p.Data))
				}
			}
		}
	}
	if l := mustSplit(t, 3, text(481)); len(l) != 2 || len(l[0].Data) != 480 || len(l[1].Data) != 1 {
		t.Errorf("of 481 bytes: %d parts", len(l))
	}
	for _, none := range [][]byte{nil, {}} {
		if l := mustSplit(t, 3, none); len(l) != 1 || !samePart(l[0], part(3, 0, 1, nil)) {
			t.Errorf("of no bytes: %v", l)
		}
	}
}

// P9.2: too long is told ahead of a number that may not be.
func TestSplitErrors(t *testing.T) {
	for _, id := range append(slices.Clone(ids), wrongIDs...) {
		for _, n := range []int{api.MaxFrame + 1, api.MaxFrame + 2, 30720, 65536, 1 << 20} {
			wantSplitError(t, id, make([]byte, n), api.ErrLong)
		}
	}
	for _, id := range wrongIDs {
		for _, n := range sizes {
			wantSplitError(t, id, make([]byte, n), api.ErrArg)
		}
	}
}

// P9.3: frames of all sizes are split, and joined again, as they are or by their bytes.
func TestFramesThereAndBack(t *testing.T) {
	whole := text(api.MaxFrame)
	for n := 0; n <= api.MaxFrame; n += 1 + n/480*7 {
		l := mustSplit(t, uint64(n+1), whole[:n])
		read := make([]frag.Part, len(l))
		for i, p := range l {
			b, e := frag.Write(p)
			if e != api.OK {
				t.Fatalf("Write of the part %d of %d bytes: %v", i, n, e)
			}
			read[i], e = frag.Read(b)
			if e != api.OK {
				t.Fatalf("Read of the part %d of %d bytes: %v", i, n, e)
			}
		}
		for _, l := range [][]frag.Part{l, read} {
			if frame, e := frag.Join(l); e != api.OK || !bytes.Equal(frame, whole[:n]) {
				t.Fatalf("Join of a frame of %d bytes = %d bytes, %v", n, len(frame), e)
			}
		}
	}
	for _, n := range sizes {
		if frame, e := frag.Join(mustSplit(t, 1, whole[:n])); e != api.OK || !bytes.Equal(frame, whole[:n]) {
			t.Errorf("Join of a frame of %d bytes = %d bytes, %v", n, len(frame), e)
		}
	}
}

// P9.2: parts may be 64, though no frame that is split has so many.
func TestJoinMost(t *testing.T) {
	for count := 1; count <= api.MaxParts; count++ {
		var l []frag.Part
		var want []byte
		for i := range count {
			data := bytes.Repeat([]byte{byte(i + 1)}, 480)
			if i == count-1 {
				data = data[:1+i*7]
			}
			want = append(want, data...)
			l = append(l, part(8, i, count, data))
		}
		if frame, e := frag.Join(l); e != api.OK || !bytes.Equal(frame, want) {
			t.Fatalf("Join of %d parts = %d bytes, %v", count, len(frame), e)
		}
		wantJoinError(t, append(l, part(8, count, count+1, []byte{1})), api.ErrForm)
	}
}

// P9.2: none at all is told first; whatever else is wrong is ErrForm.
func TestJoinErrors(t *testing.T) {
	wantJoinError(t, nil, api.ErrNone)
	wantJoinError(t, []frag.Part{}, api.ErrNone)
	frame := text(1500)
	l := mustSplit(t, 7, frame)
	changed := func(i int, change func(p *frag.Part)) []frag.Part {
		other := slices.Clone(l)
		change(&other[i])
		return other
	}
	for i := range l {
		for name, other := range map[string][]frag.Part{
			"one is missing":           slices.Delete(slices.Clone(l), i, i+1),
			"one is there twice":       slices.Insert(slices.Clone(l), i, l[i]),
			"another one's ID":         changed(i, func(p *frag.Part) { p.ID = 8 }),
			"an ID of none":            changed(i, func(p *frag.Part) { p.ID = 0 }),
			"one more in the count":    changed(i, func(p *frag.Part) { p.Count = 5 }),
			"one less in the count":    changed(i, func(p *frag.Part) { p.Count = 3 }),
			"another place":            changed(i, func(p *frag.Part) { p.Index = (i + 1) % 4 }),
			"a place below all":        changed(i, func(p *frag.Part) { p.Index = -1 }),
			"a place behind all":       changed(i, func(p *frag.Part) { p.Index = 4 }),
			"no bytes":                 changed(i, func(p *frag.Part) { p.Data = nil }),
			"too many bytes":           changed(i, func(p *frag.Part) { p.Data = text(481) }),
			"nothing":                  changed(i, func(p *frag.Part) { *p = frag.Part{} }),
			"one alone":                {l[i]},
			"it in the next one's way": changed(i, func(p *frag.Part) { *p = l[(i+1)%4] }),
		} {
			if b, e := frag.Join(other); e != api.ErrForm || len(b) != 0 {
				t.Errorf("%s, at %d: %d bytes, %v", name, i, len(b), e)
			}
		}
		if i < 3 {
			wantJoinError(t, changed(i, func(p *frag.Part) { p.Data = p.Data[:479] }), api.ErrForm)
			wantJoinError(t, l[:i+1], api.ErrForm)
		}
		for j := range i {
			other := slices.Clone(l)
			other[i], other[j] = other[j], other[i]
			wantJoinError(t, other, api.ErrForm)
		}
	}
	reversed := slices.Clone(l)
	slices.Reverse(reversed)
	wantJoinError(t, reversed, api.ErrForm)
	wantJoinError(t, slices.Concat(l, mustSplit(t, 8, frame)), api.ErrForm)
	wantJoinError(t, slices.Concat(l, l), api.ErrForm)
	wantJoinError(t, slices.Concat(mustSplit(t, 7, nil), mustSplit(t, 7, nil)), api.ErrForm)
	wantJoinError(t, make([]frag.Part, 1<<20), api.ErrForm)
	if b, e := frag.Join(l); e != api.OK || !bytes.Equal(b, frame) {
		t.Errorf("what was cloned has changed: %v", e)
	}
}

// turn changes every byte of b and of the room behind it.
func turn(b []byte) {
	b = b[:cap(b)]
	for i := range b {
		b[i] ^= 255
	}
}

// Rules 4 and 5 of Split: the frame is neither changed nor kept, what lies behind it is left alone, and no part has
// room behind it in which another one stands.
func TestSplitMemory(t *testing.T) {
	for _, n := range []int{0, 1, 480, 481, 960, 1000} {
		whole := text(2000)
		was := bytes.Clone(whole)
		l := mustSplit(t, 5, whole[:n])
		if len(l) != frag.Count(n) || !bytes.Equal(whole, was) {
			t.Fatalf("Split of %d bytes has changed them, or those behind: %d parts", n, len(l))
		}
		for i := range l {
			for j := range l {
				turn(l[j].Data)
				if want := was[480*i : min(480*i+480, n)]; j != i && !bytes.Equal(l[i].Data, want) {
					t.Fatalf("of %d bytes the part %d has memory of the part %d", n, j, i)
				}
				turn(l[j].Data)
			}
			// What is put behind a part must go elsewhere.
			_ = append(l[i].Data, 1, 2, 3)
		}
		if frame, e := frag.Join(l); e != api.OK || !bytes.Equal(frame, was[:n]) {
			t.Errorf("of %d bytes: something was written behind a part: %v", n, e)
		}
		for i := range l {
			turn(l[i].Data)
		}
		if !bytes.Equal(whole, was) {
			t.Errorf("Split hands out what it was given")
		}
		again := mustSplit(t, 5, whole[:n])
		turn(whole)
		if frame, e := frag.Join(again); e != api.OK || !bytes.Equal(frame, was[:n]) {
			t.Errorf("Split keeps what it was given")
		}
	}
}

// Rules 4 and 5 of Write and Read.
func TestPartMemory(t *testing.T) {
	data := text(100)
	was := bytes.Clone(data)
	p := part(4, 0, 1, data[:40])
	b, e := frag.Write(p)
	if e != api.OK || !bytes.Equal(b, written(part(4, 0, 1, was[:40]))) || !bytes.Equal(data, was) {
		t.Fatalf("Write: %v, %v", b, e)
	}
	turn(b)
	if !bytes.Equal(data, was) {
		t.Errorf("Write hands out what it was given")
	}
	given := append(written(part(4, 0, 1, was[:40])), 1, 2, 3)
	before := bytes.Clone(given)
	got, e := frag.Read(given[:43])
	if e != api.OK || !bytes.Equal(got.Data, was[:40]) || !bytes.Equal(given, before) {
		t.Fatalf("Read: %v, %v", got, e)
	}
	turn(got.Data)
	if !bytes.Equal(given, before) {
		t.Errorf("Read hands out what it was given")
	}
	got, _ = frag.Read(given[:43])
	turn(given)
	if !bytes.Equal(got.Data, was[:40]) {
		t.Errorf("Read keeps what it was given")
	}
	// Index and Count stand behind the length alone.
	wantReadError(t, []byte{4, 0, 1, 7}[:1], api.ErrShort)
	wantReadError(t, []byte{4, 0, 1, 7}[:2], api.ErrShort)
	wantRead(t, []byte{4, 0, 1, 7}[:3], part(4, 0, 1, nil))
	// Nothing behind Data's length makes a part of another size.
	wantRight(t, part(4, 0, 2, text(480)[:479]), false)
	wantRight(t, part(4, 1, 2, text(481)[:480]), true)
}

// Rules 4 and 5 of Join.
func TestJoinMemory(t *testing.T) {
	for _, n := range []int{0, 40, 480, 1000} {
		frame := text(n)
		l := mustSplit(t, 4, frame)
		room := append(slices.Clone(l), part(4, len(l), len(l)+1, []byte{1}))
		b, e := frag.Join(room[:len(l)])
		if e != api.OK || !bytes.Equal(b, frame) {
			t.Fatalf("Join of %d bytes: %v", n, e)
		}
		turn(b)
		for i, p := range l {
			if !samePart(p, room[i]) || !bytes.Equal(p.Data, frame[480*i:min(480*i+480, n)]) {
				t.Errorf("Join of %d bytes changes parts, or hands them out", n)
			}
		}
		if room[len(l)].Index != len(l) {
			t.Errorf("Join of %d bytes writes behind the list", n)
		}
		if len(l) > 1 {
			wantJoinError(t, l[:len(l)-1], api.ErrForm)
		}
		wantJoinError(t, l[:0], api.ErrNone)
		b, _ = frag.Join(l)
		for i := range l {
			turn(l[i].Data)
		}
		if !bytes.Equal(b, frame) {
			t.Errorf("Join of %d bytes keeps parts", n)
		}
	}
}

// P1: no call panics, whatever it is given; with an error every other result is zero.
func TestAnything(t *testing.T) {
	r := rand.New(rand.NewSource(9))
	numbers := []int{math.MinInt, -1, 0, 1, 2, 3, 63, 64, 65, 256, math.MaxInt}
	anyPart := func() frag.Part {
		n := []int{0, 1, 479, 480, 481}[r.Intn(5)]
		return part(r.Uint64()>>r.Intn(64), numbers[r.Intn(len(numbers))], numbers[r.Intn(len(numbers))], make([]byte, n))
	}
	for range 20000 {
		p := anyPart()
		wantRight(t, p, mayBe(p))
		b, e := frag.Write(p)
		if (e == api.OK) != mayBe(p) || e != api.OK && (e != api.ErrForm || len(b) != 0) {
			t.Fatalf("Write(%v) = %v, %v", p, b, e)
		}
		l := []frag.Part{p, anyPart(), anyPart()}[:r.Intn(4)]
		if b, e := frag.Join(l); e != api.OK && len(b) != 0 {
			t.Fatalf("Join(%v) = %v, %v", l, b, e)
		}
		junk := make([]byte, r.Intn(600))
		r.Read(junk)
		if p, e := frag.Read(junk); e != api.OK && !samePart(p, frag.Part{}) {
			t.Fatalf("Read(%v) = %v, %v", junk, p, e)
		}
	}
}
