package join_test

import (
	"bytes"
	"math"
	"math/rand"
	"slices"
	"testing"

	"longline/api"
	"longline/frag"
	"longline/join"
)

// text is n bytes, always the same ones of a number.
func text(id uint64, n int) []byte {
	b := make([]byte, n)
	rand.New(rand.NewSource(int64(id) + int64(n)<<32)).Read(b)
	return b
}

// part is one of a frame of count parts, the last one of seven bytes, that hang on the frame's number and the place.
func part(id uint64, index, count int) frag.Part {
	data := bytes.Repeat([]byte{byte(id), byte(index)}, frag.Most/2)
	if index == count-1 {
		data = data[:7]
	}
	return frag.Part{ID: id, Index: index, Count: count, Data: data}
}

// whole is the frame of all those parts.
func whole(id uint64, count int) []byte {
	var frame []byte
	for i := range count {
		frame = append(frame, part(id, i, count).Data...)
	}
	return frame
}

func split(t *testing.T, id uint64, frame []byte) []frag.Part {
	t.Helper()
	l, e := frag.Split(id, frame)
	if e != api.OK {
		t.Fatalf("Split(%d) of %d bytes: %v", id, len(frame), e)
	}
	return l
}

func wantTable(t *testing.T, table *join.Table, floor uint64, waits ...uint64) {
	t.Helper()
	if table.Floor() != floor || !slices.Equal(table.Waits(), waits) {
		t.Fatalf("Floor = %d, Waits = %v, want %d, %v", table.Floor(), table.Waits(), floor, waits)
	}
}

func wantMissing(t *testing.T, table *join.Table, id uint64, want int) {
	t.Helper()
	if n := table.Missing(id); n != want {
		t.Fatalf("Missing(%d) = %d, want %d", id, n, want)
	}
}

// wantPut is of a part after which its frame is not whole.
func wantPut(t *testing.T, table *join.Table, p frag.Part) {
	t.Helper()
	if b, ok, e := table.Put(p); e != api.OK || ok || len(b) != 0 {
		t.Fatalf("Put of %d, %d of %d = %d bytes, %v, %v", p.ID, p.Index, p.Count, len(b), ok, e)
	}
}

func wantWhole(t *testing.T, table *join.Table, p frag.Part, frame []byte) {
	t.Helper()
	if b, ok, e := table.Put(p); e != api.OK || !ok || !bytes.Equal(b, frame) {
		t.Fatalf("Put of %d, %d of %d = %d bytes, %v, %v, want %d bytes", p.ID, p.Index, p.Count, len(b), ok, e, len(frame))
	}
}

// state is all that can be asked of a table, at the numbers that a test has.
type state struct {
	floor   uint64
	waits   []uint64
	missing []int
}

func stateOf(table *join.Table, ids []uint64) state {
	s := state{floor: table.Floor(), waits: table.Waits()}
	for _, id := range ids {
		s.missing = append(s.missing, table.Missing(id))
	}
	return s
}

func sameState(a, b state) bool {
	return a.floor == b.floor && slices.Equal(a.waits, b.waits) && slices.Equal(a.missing, b.missing)
}

// wantError is of a part that is not put: nothing changes.
func wantError(t *testing.T, table *join.Table, p frag.Part, want api.Errno) {
	t.Helper()
	before := stateOf(table, append(table.Waits(), p.ID))
	b, ok, e := table.Put(p)
	if e != want || ok || len(b) != 0 {
		t.Fatalf("Put of %d, %d of %d = %d bytes, %v, %v, want %v", p.ID, p.Index, p.Count, len(b), ok, e, want)
	}
	if after := stateOf(table, append(table.Waits(), p.ID)); !sameState(before, after) {
		t.Fatalf("Put of %d, %d of %d: %v, and yet %v has become %v", p.ID, p.Index, p.Count, e, before, after)
	}
}

// P10.1: a new table, and what is asked of numbers that it does not have.
func TestNew(t *testing.T) {
	if join.Open != 4 {
		t.Errorf("Open = %d", join.Open)
	}
	table := join.New()
	if table == nil {
		t.Fatal("New is nil")
	}
	wantTable(t, table, 1)
	for _, id := range []uint64{0, 1, 2, api.MaxVint, api.MaxVint + 1, math.MaxUint64} {
		wantMissing(t, table, id, 0)
	}
}

// P10.1: of nil, and of one that no call made, whatever is asked, and ahead of all other errors.
func TestNoTable(t *testing.T) {
	var none *join.Table
	var zero join.Table
	held := struct{ join.Table }{}
	for i, table := range []*join.Table{none, &zero, new(join.Table), {}, &held.Table} {
		for range 2 {
			for _, p := range []frag.Part{part(1, 0, 1), part(1, 0, 2), part(api.MaxVint, 1, 2), {}, {ID: 1, Index: -1, Count: 1}, {ID: 0, Count: 1}} {
				if b, ok, e := table.Put(p); e != api.ErrNil || ok || len(b) != 0 {
					t.Errorf("%d: Put(%v) = %v, %v, %v", i, p, b, ok, e)
				}
			}
			if table.Floor() != 0 || len(table.Waits()) != 0 {
				t.Errorf("%d: Floor = %d, Waits = %v", i, table.Floor(), table.Waits())
			}
			for _, id := range []uint64{0, 1, api.MaxVint, math.MaxUint64} {
				if table.Missing(id) != 0 {
					t.Errorf("%d: Missing(%d) = %d", i, id, table.Missing(id))
				}
			}
		}
	}
}

// P10.2: what has one part is whole at once, with bytes or without.
func TestOnePart(t *testing.T) {
	for _, n := range []int{0, 1, 479, 480} {
		for _, id := range []uint64{1, 2, 300, api.MaxVint - 1, api.MaxVint} {
			table := join.New()
			p := frag.Part{ID: id, Count: 1, Data: text(id, n)}
			wantWhole(t, table, p, text(id, n))
			wantTable(t, table, id+1)
			wantError(t, table, p, api.ErrOld)
		}
	}
	table := join.New()
	wantWhole(t, table, frag.Part{ID: 1, Count: 1}, nil)
	wantWhole(t, table, frag.Part{ID: 2, Count: 1, Data: []byte{}}, nil)
	wantTable(t, table, 3)
}

// P10.1 and P10.2: what a frame misses falls with each part, till it is whole; then it is gone.
func TestMissing(t *testing.T) {
	for count := 2; count <= api.MaxParts; count++ {
		table := join.New()
		order := rand.New(rand.NewSource(int64(count))).Perm(count)
		for i, index := range order[:count-1] {
			wantPut(t, table, part(9, index, count))
			wantMissing(t, table, 9, count-1-i)
			wantTable(t, table, 1, 9)
			wantMissing(t, table, 8, 0)
			wantMissing(t, table, 10, 0)
			wantError(t, table, part(9, index, count), api.ErrState)
		}
		wantWhole(t, table, part(9, order[count-1], count), whole(9, count))
		wantMissing(t, table, 9, 0)
		wantTable(t, table, 10)
	}
}

// P10.3: the parts of frames of all sizes, in many orders, each make the frame, once.
func TestAnyOrder(t *testing.T) {
	r := rand.New(rand.NewSource(1))
	table := join.New()
	for id := uint64(1); id < 200; id++ {
		n := []int{r.Intn(481), r.Intn(2000), r.Intn(api.MaxFrame + 1), api.MaxFrame, 480 * r.Intn(50)}[r.Intn(5)]
		frame := text(id, n)
		l := split(t, id, frame)
		// Some come twice; which of the two comes first does not matter.
		twice := slices.Concat(l, l[:r.Intn(len(l)+1)])
		r.Shuffle(len(twice), func(i, j int) { twice[i], twice[j] = twice[j], twice[i] })
		came := map[int]int{}
		for _, p := range twice {
			switch {
			case len(came) == len(l):
				wantError(t, table, p, api.ErrOld)
			case came[p.Index] > 0:
				wantError(t, table, p, api.ErrState)
			case len(came) == len(l)-1:
				wantWhole(t, table, p, frame)
				came[p.Index]++
			default:
				wantPut(t, table, p)
				came[p.Index]++
			}
		}
		wantTable(t, table, id+1)
	}
}

// P10.3: all orders of five parts.
func TestAllOrders(t *testing.T) {
	var try func(order []int)
	try = func(order []int) {
		if len(order) < 5 {
			for index := range 5 {
				if !slices.Contains(order, index) {
					try(append(slices.Clone(order), index))
				}
			}
			return
		}
		table := join.New()
		for _, index := range order[:4] {
			wantPut(t, table, part(3, index, 5))
		}
		wantWhole(t, table, part(3, order[4], 5), whole(3, 5))
	}
	try(nil)
}

// P10.2: parts that may not be, ahead of what is said of their numbers.
func TestWrongParts(t *testing.T) {
	table := join.New()
	wantWhole(t, table, part(4, 0, 1), whole(4, 1))
	wantPut(t, table, part(7, 0, 3))
	long := bytes.Repeat([]byte{1}, 481)
	for _, id := range []uint64{0, 1, 4, 5, 7, 8, api.MaxVint, api.MaxVint + 1, math.MaxUint64} {
		for _, p := range []frag.Part{
			{ID: id}, {ID: id, Index: -1, Count: 3, Data: long[:480]}, {ID: id, Index: 3, Count: 3, Data: long[:480]},
			{ID: id, Index: 1, Count: 3, Data: long[:479]}, {ID: id, Index: 1, Count: 3, Data: long}, {ID: id, Index: 1, Count: 3},
			{ID: id, Index: 2, Count: 3}, {ID: id, Index: 2, Count: 3, Data: long}, {ID: id, Index: 0, Count: 1, Data: long},
			{ID: id, Index: 0, Count: 65, Data: long[:480]}, {ID: id, Index: 64, Count: 65, Data: long[:480]}, {ID: id, Index: 64, Count: 64, Data: long[:480]},
			{ID: id, Index: math.MinInt, Count: math.MinInt}, {ID: id, Index: math.MaxInt - 1, Count: math.MaxInt, Data: long[:480]},
			{ID: id, Index: math.MinInt, Count: 1}, {ID: id, Index: 0, Count: -1}, {ID: id, Index: 1, Count: 0},
		} {
			wantError(t, table, p, api.ErrForm)
		}
	}
	for _, id := range []uint64{0, api.MaxVint + 1, math.MaxUint64} {
		wantError(t, table, part(id, 0, 3), api.ErrForm)
		wantError(t, table, part(id, 0, 1), api.ErrForm)
	}
	wantTable(t, table, 5, 7)
	wantMissing(t, table, 7, 2)
}

// P10.2: what is below the floor is old, whatever else is to be said of it.
func TestOld(t *testing.T) {
	table := join.New()
	wantPut(t, table, part(3, 0, 2))
	wantPut(t, table, part(9, 0, 2))
	wantWhole(t, table, part(5, 0, 1), whole(5, 1))
	wantTable(t, table, 6, 9)
	for id := uint64(1); id < 6; id++ {
		for _, p := range []frag.Part{part(id, 0, 2), part(id, 1, 2), part(id, 0, 1), part(id, 2, 3)} {
			wantError(t, table, p, api.ErrOld)
		}
	}
	// The floor itself is not old.
	wantWhole(t, table, part(6, 0, 1), whole(6, 1))
	wantTable(t, table, 7, 9)
	wantPut(t, table, part(7, 0, 2))
	wantTable(t, table, 7, 7, 9)
}

// P10.2: another count of parts is told ahead of a part that came.
func TestAnotherCount(t *testing.T) {
	table := join.New()
	wantPut(t, table, part(3, 0, 3))
	wantPut(t, table, part(3, 2, 3))
	for _, p := range []frag.Part{
		part(3, 0, 2), part(3, 1, 2), part(3, 0, 4), part(3, 1, 4), part(3, 3, 4), part(3, 0, 1), part(3, 63, 64), part(3, 2, 64),
	} {
		wantError(t, table, p, api.ErrArg)
	}
	for _, index := range []int{0, 2} {
		wantError(t, table, part(3, index, 3), api.ErrState)
	}
	wantMissing(t, table, 3, 1)
	wantWhole(t, table, part(3, 1, 3), whole(3, 3))
}

// P10.2: the bytes that came first stay.
func TestOtherBytes(t *testing.T) {
	table := join.New()
	wantPut(t, table, part(3, 0, 2))
	other := part(3, 0, 2)
	for i := range other.Data {
		other.Data[i] ^= 255
	}
	wantError(t, table, other, api.ErrState)
	wantWhole(t, table, part(3, 1, 2), whole(3, 2))
}

// full is a table of four frames, of 10, 20, 30 and 40, each of three parts, of which one came.
func full(t *testing.T) *join.Table {
	t.Helper()
	table := join.New()
	for _, id := range []uint64{30, 10, 40, 20} {
		wantPut(t, table, part(id, 1, 3))
	}
	wantTable(t, table, 1, 10, 20, 30, 40)
	return table
}

// P10.2: with four frames there is no room for a number below all of theirs, not even for a frame of one part.
func TestFull(t *testing.T) {
	table := full(t)
	for _, id := range []uint64{1, 2, 9} {
		for _, p := range []frag.Part{part(id, 0, 1), part(id, 0, 3), part(id, 2, 3), part(id, 0, 64)} {
			wantError(t, table, p, api.ErrFull)
		}
	}
	// But for parts of these four there is.
	for _, id := range []uint64{10, 20, 30, 40} {
		wantError(t, table, part(id, 1, 3), api.ErrState)
		wantError(t, table, part(id, 1, 4), api.ErrArg)
		wantPut(t, table, part(id, 0, 3))
		wantMissing(t, table, id, 1)
	}
	wantTable(t, table, 1, 10, 20, 30, 40)
	wantWhole(t, table, part(10, 2, 3), whole(10, 3))
	wantTable(t, table, 11, 20, 30, 40)
	// Below all of three there is room.
	wantPut(t, table, part(11, 0, 2))
	wantTable(t, table, 11, 11, 20, 30, 40)
	wantError(t, table, part(10, 0, 3), api.ErrOld)
}

// P10.2: the least one makes room for a fifth number above it, wherever that stands.
func TestLeastGoes(t *testing.T) {
	for _, x := range []struct {
		id    uint64
		waits []uint64
	}{
		{11, []uint64{11, 20, 30, 40}}, {19, []uint64{19, 20, 30, 40}}, {21, []uint64{20, 21, 30, 40}}, {35, []uint64{20, 30, 35, 40}},
		{41, []uint64{20, 30, 40, 41}}, {api.MaxVint, []uint64{20, 30, 40, api.MaxVint}},
	} {
		table := full(t)
		wantPut(t, table, part(x.id, 0, 2))
		wantTable(t, table, 11, x.waits...)
		wantMissing(t, table, 10, 0)
		wantMissing(t, table, x.id, 1)
		for _, id := range x.waits {
			if id != x.id {
				wantMissing(t, table, id, 2)
			}
		}
		for id := uint64(1); id <= 10; id++ {
			wantError(t, table, part(id, 0, 3), api.ErrOld)
			wantError(t, table, part(id, 0, 1), api.ErrOld)
		}
		wantWhole(t, table, part(x.id, 1, 2), whole(x.id, 2))
	}
	// The one that is gone does not come back, and its room is taken again and again.
	table := full(t)
	for id := uint64(50); id < 80; id++ {
		waits := table.Waits()
		wantPut(t, table, part(id, 0, 2))
		wantTable(t, table, waits[0]+1, append(waits[1:], id)...)
	}
}

// P10.2: a fifth one that is whole at once takes the floor above itself; those below it are gone.
func TestWholeWhenFull(t *testing.T) {
	for _, x := range []struct {
		id    uint64
		waits []uint64
	}{
		{11, []uint64{20, 30, 40}}, {25, []uint64{30, 40}}, {39, []uint64{40}}, {41, nil}, {api.MaxVint, nil},
	} {
		table := full(t)
		wantWhole(t, table, part(x.id, 0, 1), whole(x.id, 1))
		wantTable(t, table, x.id+1, x.waits...)
	}
}

// P10.2: when one of several is whole, those below it are gone, and those above it go on.
func TestFramesBelowAreGone(t *testing.T) {
	ids := []uint64{10, 20, 30, 40}
	for i, id := range ids {
		table := full(t)
		wantPut(t, table, part(id, 2, 3))
		wantWhole(t, table, part(id, 0, 3), whole(id, 3))
		wantTable(t, table, id+1, ids[i+1:]...)
		for _, gone := range ids[:i+1] {
			wantMissing(t, table, gone, 0)
			wantError(t, table, part(gone, 0, 3), api.ErrOld)
		}
		for _, other := range ids[i+1:] {
			wantMissing(t, table, other, 2)
		}
		for _, other := range ids[i+1:] {
			wantPut(t, table, part(other, 0, 3))
			wantWhole(t, table, part(other, 2, 3), whole(other, 3))
		}
	}
}

// At the last number the table ends.
func TestLastNumber(t *testing.T) {
	table := join.New()
	wantPut(t, table, part(api.MaxVint-1, 0, 2))
	wantPut(t, table, part(api.MaxVint, 0, 2))
	wantTable(t, table, 1, api.MaxVint-1, api.MaxVint)
	wantWhole(t, table, part(api.MaxVint, 1, 2), whole(api.MaxVint, 2))
	wantTable(t, table, api.MaxVint+1)
	for _, id := range []uint64{1, api.MaxVint - 1, api.MaxVint} {
		wantError(t, table, part(id, 0, 1), api.ErrOld)
		wantError(t, table, part(id, 1, 2), api.ErrOld)
	}
	wantError(t, table, part(api.MaxVint+1, 0, 1), api.ErrForm)
}

// Frames of 51 parts and more may be, though none that is split has so many.
func TestMostParts(t *testing.T) {
	table := join.New()
	for index := range api.MaxParts - 1 {
		wantPut(t, table, part(2, index, api.MaxParts))
	}
	wantWhole(t, table, part(2, api.MaxParts-1, api.MaxParts), whole(2, api.MaxParts))
}

// worded is a table as the document words it: frames in a list, in no order, with their parts as they came.
type worded struct {
	floor  uint64
	frames []wordedFrame
}

type wordedFrame struct {
	id    uint64
	count int
	came  []frag.Part
}

func (w *worded) find(id uint64) int {
	return slices.IndexFunc(w.frames, func(f wordedFrame) bool { return f.id == id })
}

func (w *worded) waits() []uint64 {
	var ids []uint64
	for _, f := range w.frames {
		ids = append(ids, f.id)
	}
	slices.Sort(ids)
	return ids
}

func (w *worded) missing(id uint64) int {
	at := w.find(id)
	if at < 0 {
		return 0
	}
	return w.frames[at].count - len(w.frames[at].came)
}

func (w *worded) drop(floor uint64) {
	w.floor = floor
	w.frames = slices.DeleteFunc(w.frames, func(f wordedFrame) bool { return f.id < floor })
}

func (w *worded) put(p frag.Part) ([]byte, bool, api.Errno) {
	at := w.find(p.ID)
	switch {
	case !frag.Right(p):
		return nil, false, api.ErrForm
	case p.ID < w.floor:
		return nil, false, api.ErrOld
	case at >= 0 && w.frames[at].count != p.Count:
		return nil, false, api.ErrArg
	case at >= 0 && slices.ContainsFunc(w.frames[at].came, func(o frag.Part) bool { return o.Index == p.Index }):
		return nil, false, api.ErrState
	case at < 0 && len(w.frames) == 4 && p.ID < w.waits()[0]:
		return nil, false, api.ErrFull
	case at < 0 && len(w.frames) == 4:
		w.drop(w.waits()[0] + 1)
	}
	if at < 0 {
		w.frames = append(w.frames, wordedFrame{id: p.ID, count: p.Count})
		at = len(w.frames) - 1
	}
	w.frames[at].came = append(w.frames[at].came, p)
	if len(w.frames[at].came) < p.Count {
		return nil, false, api.OK
	}
	came := w.frames[at].came
	slices.SortFunc(came, func(a, b frag.Part) int { return a.Index - b.Index })
	var frame []byte
	for _, p := range came {
		frame = append(frame, p.Data...)
	}
	w.drop(p.ID + 1)
	return frame, true, api.OK
}

// anyPart is one of the numbers above and below the floor, of few parts, and sometimes one that may not be.
func anyPart(r *rand.Rand, floor uint64) frag.Part {
	id := floor + uint64(r.Intn(9))
	if back := uint64(r.Intn(3)); back < id {
		id -= back
	}
	count := 1 + int(id%4)
	if r.Intn(10) == 0 {
		count = 1 + r.Intn(5)
	}
	p := part(id, r.Intn(count), count)
	switch r.Intn(60) {
	case 0:
		p.Index = count
	case 1:
		p.Data = nil
	case 2:
		p.ID = 0
	}
	return p
}

// P10.1 and P10.2, any parts, held against the document's own wording; and P10.4: never more than four frames, a floor
// that never falls, frames that are told with rising numbers alone.
func TestAnyParts(t *testing.T) {
	seen := map[api.Errno]int{}
	told := 0
	for seed := range int64(300) {
		r := rand.New(rand.NewSource(seed))
		table, w := join.New(), &worded{floor: 1}
		last := uint64(0)
		for range 400 {
			p := anyPart(r, w.floor)
			was := table.Floor()
			got, ok, e := table.Put(p)
			frame, wantOK, want := w.put(p)
			if e != want || ok != wantOK || !bytes.Equal(got, frame) {
				t.Fatalf("Put of %d, %d of %d = %d bytes, %v, %v, want %d, %v, %v", p.ID, p.Index, p.Count, len(got), ok, e, len(frame), wantOK, want)
			}
			wantTable(t, table, w.floor, w.waits()...)
			for id := max(w.floor, 3) - 3; id < w.floor+12; id++ {
				wantMissing(t, table, id, w.missing(id))
			}
			if len(table.Waits()) > join.Open || table.Floor() < was || ok && p.ID <= last {
				t.Fatalf("Floor = %d behind %d, Waits = %v, told %d behind %d", table.Floor(), was, table.Waits(), p.ID, last)
			}
			seen[e]++
			if ok {
				last = p.ID
				told++
			}
		}
	}
	for _, e := range []api.Errno{api.OK, api.ErrForm, api.ErrOld, api.ErrArg, api.ErrState, api.ErrFull} {
		if seen[e] < 100 || told < 100 {
			t.Errorf("%v was answered %d times, and %d frames were told", e, seen[e], told)
		}
	}
}

// turn changes every byte of b and of the room behind it.
func turn(b []byte) {
	b = b[:cap(b)]
	for i := range b {
		b[i] ^= 255
	}
}

// Rules 4 and 5: parts are neither changed nor kept, what lies behind them is left alone, and what is handed out is new.
func TestMemory(t *testing.T) {
	table := join.New()
	data := bytes.Repeat([]byte{7}, 600)
	was := bytes.Clone(data)
	wantPut(t, table, frag.Part{ID: 3, Index: 0, Count: 2, Data: data[:480]})
	if !bytes.Equal(data, was) {
		t.Errorf("Put changes what it was given")
	}
	turn(data)
	wantWhole(t, table, frag.Part{ID: 3, Index: 1, Count: 2, Data: []byte{1, 2}[:1]}, append(was[:480:480], 1))
	one := []byte{1, 2, 3, 4}
	got, ok, e := table.Put(frag.Part{ID: 5, Count: 1, Data: one[:2]})
	if e != api.OK || !ok || !bytes.Equal(got, []byte{1, 2}) {
		t.Fatalf("Put = %v, %v, %v", got, ok, e)
	}
	turn(got)
	if !bytes.Equal(one, []byte{1, 2, 3, 4}) {
		t.Errorf("Put hands out what it was given, or writes behind it: %v", one)
	}
	first, second := part(6, 0, 2), part(6, 1, 2)
	wantPut(t, table, first)
	got, _, _ = table.Put(second)
	if !bytes.Equal(got, whole(6, 2)) {
		t.Fatalf("the frame is %v", got)
	}
	turn(got)
	if !bytes.Equal(first.Data, part(6, 0, 2).Data) || !bytes.Equal(second.Data, part(6, 1, 2).Data) {
		t.Errorf("a frame has memory of its parts")
	}
	wantPut(t, table, part(8, 0, 2))
	wantPut(t, table, part(9, 0, 2))
	waits := table.Waits()
	waits = append(waits[:0], 1, 1)
	wantTable(t, table, 7, 8, 9)
	wantWhole(t, table, part(8, 1, 2), whole(8, 2))
	if !slices.Equal(waits, []uint64{1, 1}) {
		t.Errorf("Waits are kept: %v", waits)
	}
}

// Tables side by side have nothing in common.
func TestSideBySide(t *testing.T) {
	a, b := join.New(), join.New()
	wantPut(t, a, part(3, 0, 2))
	wantTable(t, b, 1)
	wantPut(t, b, part(3, 1, 2))
	wantWhole(t, a, part(3, 1, 2), whole(3, 2))
	wantTable(t, a, 4)
	wantTable(t, b, 1, 3)
	wantWhole(t, b, part(3, 0, 2), whole(3, 2))
}

// Rule 7: the same parts make the same table, however often.
func TestSameAgain(t *testing.T) {
	for seed := range int64(20) {
		var first []state
		for again := range 5 {
			r := rand.New(rand.NewSource(seed))
			table := join.New()
			for i := range 100 {
				table.Put(anyPart(r, table.Floor()))
				s := stateOf(table, []uint64{table.Floor(), table.Floor() + 1, table.Floor() + 2})
				if again == 0 {
					first = append(first, s)
				} else if !sameState(s, first[i]) {
					t.Fatalf("%v, and then %v", first[i], s)
				}
			}
		}
	}
}
