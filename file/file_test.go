package file_test

import (
	"bytes"
	"crypto/sha256"
	"math"
	"math/rand"
	"slices"
	"strings"
	"testing"

	"longline/api"
	"longline/bitmap"
	"longline/file"
	"longline/store"
)

// sizes are those at which something ends or begins, and some between.
var sizes = []int{0, 1, 2, 63, 64, 65, 100, 127, 128, 129, 500, 4031, 4032, 4033, 4095, 4096}

// text is some bytes, each unlike those beside it.
func text(n int) []byte {
	b := make([]byte, n)
	for i := range b {
		b[i] = byte(i*7 + i>>8 + 1)
	}
	return b
}

// piece is a chunk's bytes.
func piece(b []byte, i int) []byte { return b[64*i : min(64*i+64, len(b))] }

// count is how many chunks bytes have.
func count(b []byte) int {
	n := 0
	for from := 0; from < len(b); from += 64 {
		n++
	}
	return n
}

func mapOf(n int, there ...int) bitmap.Map {
	m := bitmap.Map{N: n}
	for _, i := range there {
		m.Bits |= 1 << i
	}
	return m
}

func full(n int) bitmap.Map {
	m := bitmap.Map{N: n}
	for i := range n {
		m.Bits |= 1 << i
	}
	return m
}

func made(t *testing.T, b []byte) *file.Sender {
	t.Helper()
	s, e := file.New(7, "name", b)
	if e != api.OK || s == nil {
		t.Fatalf("New of %d bytes: %v, %v", len(b), s, e)
	}
	return s
}

func wantState(t *testing.T, s *file.Sender, state, left int) {
	t.Helper()
	if s.State() != state || s.Left() != left {
		t.Fatalf("State = %d, Left = %d, want %d, %d", s.State(), s.Left(), state, left)
	}
}

// wantNext is of a chunk of b: it is peeked at first.
func wantNext(t *testing.T, s *file.Sender, b []byte, want int) {
	t.Helper()
	for range 2 {
		if n, ok := s.Peek(); !ok || n != len(piece(b, want)) {
			t.Fatalf("Peek = %d, %v, want %d", n, ok, len(piece(b, want)))
		}
	}
	if i, data, ok := s.Next(); !ok || i != want || !bytes.Equal(data, piece(b, want)) {
		t.Fatalf("Next = %d, %v, %v, want %d, %v", i, data, ok, want, piece(b, want))
	}
}

// wantNothing is of a sender that has nothing to tell.
func wantNothing(t *testing.T, s *file.Sender) {
	t.Helper()
	if n, ok := s.Peek(); ok || n != 0 {
		t.Fatalf("Peek = %d, %v", n, ok)
	}
	if i, data, ok := s.Next(); ok || i != 0 || len(data) != 0 {
		t.Fatalf("Next = %d, %v, %v", i, data, ok)
	}
	for _, most := range []int{math.MinInt, -1, 0, 1, 64, math.MaxInt} {
		wantCosts(t, s, most)
	}
}

func wantCosts(t *testing.T, s *file.Sender, most int, want ...int) {
	t.Helper()
	if l := s.Costs(most); !slices.Equal(l, want) {
		t.Fatalf("Costs(%d) = %v, want %v", most, l, want)
	}
}

func wantKnow(t *testing.T, s *file.Sender, m bitmap.Map, want api.Errno) {
	t.Helper()
	if e := s.Know(m); e != want {
		t.Fatalf("Know(%v): %v, want %v", m, e, want)
	}
}

func wantAnew(t *testing.T, s *file.Sender, m bitmap.Map, want api.Errno) {
	t.Helper()
	if e := s.Anew(m); e != want {
		t.Fatalf("Anew(%v): %v, want %v", m, e, want)
	}
}

func wantCancel(t *testing.T, s *file.Sender, want api.Errno) {
	t.Helper()
	if e := s.Cancel(); e != want {
		t.Fatalf("Cancel: %v, want %v", e, want)
	}
}

// P26.1: a sender of which nothing is known, and its description.
func TestNew(t *testing.T) {
	for _, size := range sizes {
		b := text(size)
		s := made(t, b)
		want := store.Info{ID: 7, Name: "name", Size: size, Sum: sha256.Sum256(b)}
		if s.Info() != want || !store.Right(s.Info()) {
			t.Errorf("Info = %v, want %v", s.Info(), want)
		}
		if size == 0 {
			wantState(t, s, 2, 0)
			wantNothing(t, s)
			continue
		}
		wantState(t, s, 0, count(b))
		wantNext(t, s, b, 0)
	}
	if s, e := file.New(1, "a", nil); e != api.OK || s.Info() != (store.Info{ID: 1, Name: "a", Sum: sha256.Sum256(nil)}) {
		t.Errorf("New of nil: %v, %v", s.Info(), e)
	}
}

// P26.1: descriptions that may not be.
func TestNewForm(t *testing.T) {
	try := func(id uint64, name string, size int, want bool) {
		t.Helper()
		s, e := file.New(id, name, make([]byte, size))
		if want && (e != api.OK || s == nil || s.Info().ID != id || s.Info().Name != name || s.Info().Size != size) {
			t.Errorf("New(%d, %q) of %d bytes: %v", id, name, size, e)
		}
		if !want && (e != api.ErrForm || s != nil) {
			t.Errorf("New(%d, %q) of %d bytes = %v, %v", id, name, size, s, e)
		}
	}
	for _, id := range []uint64{1, 2, 1 << 32, 1<<62 - 1} {
		try(id, "a", 65, true)
	}
	for _, id := range []uint64{0, 1 << 62, 1 << 63, math.MaxUint64} {
		try(id, "a", 65, false)
		try(id, "", 4097, false)
	}
	for n := range 60 {
		try(1, strings.Repeat("n", n), 65, n >= 1 && n <= 24)
		try(1, strings.Repeat("\u00e4", n), 0, n >= 1 && n <= 12)
		try(1, strings.Repeat("\xFF", n), 4096, n >= 1 && n <= 24)
	}
	for _, size := range []int{0, 1, 64, 4095, 4096} {
		try(1, "a", size, true)
	}
	for _, size := range []int{4097, 4098, 4160, 8192, 70000} {
		try(1, "a", size, false)
	}
}

// P26.1: of nil, and of one that no call made; ErrNil is the first of all errors.
func TestNone(t *testing.T) {
	var zero file.Sender
	held := struct{ file.Sender }{}
	for _, s := range []*file.Sender{nil, &zero, new(file.Sender), {}, &held.Sender} {
		for range 2 {
			if s.Info() != (store.Info{}) {
				t.Errorf("Info = %v", s.Info())
			}
			wantState(t, s, 0, 0)
			wantNothing(t, s)
			for _, m := range []bitmap.Map{{}, {N: 1}, {N: 1, Bits: 1}, {N: -1}, {N: 65}, {Bits: 1}} {
				wantKnow(t, s, m, api.ErrNil)
				wantAnew(t, s, m, api.ErrNil)
			}
			wantCancel(t, s, api.ErrNil)
		}
	}
}

// The document's example.
func TestExample(t *testing.T) {
	b := text(100)
	s := made(t, b)
	wantKnow(t, s, mapOf(2, 0), api.OK)
	for range 5 {
		wantNext(t, s, b, 1)
	}
	wantState(t, s, 0, 1)
}

// P26.2: one behind the other, and around; asking tells the same chunks again till they are known.
func TestAround(t *testing.T) {
	for _, size := range sizes[1:] {
		b := text(size)
		s := made(t, b)
		for range 3 {
			for i := range count(b) {
				wantNext(t, s, b, i)
			}
		}
		wantState(t, s, 0, count(b))
	}
}

// P26.2: the next chunk is the first one from the place on that is not known, or the first one at all.
func TestNext(t *testing.T) {
	b := text(5*64 - 10)
	s := made(t, b)
	wantNext(t, s, b, 0)
	wantNext(t, s, b, 1)
	wantKnow(t, s, mapOf(5, 2, 3), api.OK)
	wantNext(t, s, b, 4)
	wantNext(t, s, b, 0)
	// What becomes known behind the place does not move it.
	wantKnow(t, s, mapOf(5, 0), api.OK)
	wantNext(t, s, b, 1)
	wantNext(t, s, b, 4)
	wantNext(t, s, b, 1)
	wantKnow(t, s, mapOf(5, 4), api.OK)
	wantState(t, s, 0, 1)
	wantNext(t, s, b, 1)
	wantKnow(t, s, mapOf(5, 1), api.OK)
	wantState(t, s, 2, 0)
	wantNothing(t, s)
}

// P26.2: with Anew that alone is known which is there, and the place is 0.
func TestAnew(t *testing.T) {
	b := text(4 * 64)
	s := made(t, b)
	wantKnow(t, s, mapOf(4, 0, 1), api.OK)
	wantNext(t, s, b, 2)
	wantAnew(t, s, mapOf(4, 2), api.OK)
	wantState(t, s, 0, 3)
	wantNext(t, s, b, 0)
	wantNext(t, s, b, 1)
	// Of the same once more the place alone is another one.
	wantAnew(t, s, mapOf(4, 2), api.OK)
	wantNext(t, s, b, 0)
	wantAnew(t, s, mapOf(4), api.OK)
	for i := range 4 {
		wantNext(t, s, b, i)
	}
	wantAnew(t, s, full(4), api.OK)
	wantState(t, s, 2, 0)
	wantNothing(t, s)
	// What was done is so no more, if a chunk is not there.
	wantAnew(t, s, mapOf(4, 0, 1, 3), api.OK)
	wantState(t, s, 0, 1)
	wantNext(t, s, b, 2)
}

// P26.2: what is known stays so, if less is told.
func TestKnow(t *testing.T) {
	b := text(3 * 64)
	s := made(t, b)
	wantKnow(t, s, mapOf(3), api.OK)
	wantState(t, s, 0, 3)
	wantKnow(t, s, mapOf(3, 1), api.OK)
	wantKnow(t, s, mapOf(3), api.OK)
	wantKnow(t, s, mapOf(3, 1), api.OK)
	wantState(t, s, 0, 2)
	wantKnow(t, s, mapOf(3, 2), api.OK)
	wantState(t, s, 0, 1)
	wantNext(t, s, b, 0)
	wantKnow(t, s, mapOf(3, 0), api.OK)
	wantKnow(t, s, mapOf(3), api.OK)
	wantState(t, s, 2, 0)
}

// P26.2: maps that may not be, and those of more or fewer chunks; that is told ahead of a file that was cancelled.
func TestMapsRefused(t *testing.T) {
	for _, size := range sizes {
		b := text(size)
		n := count(b)
		var bad []bitmap.Map
		for other := -2; other < 70; other++ {
			if other != n {
				bad = append(bad, bitmap.Map{N: other}, bitmap.Map{N: other, Bits: 1})
			}
		}
		for at := n; at < 64; at++ {
			bad = append(bad, bitmap.Map{N: n, Bits: 1 << at}, bitmap.Map{N: n, Bits: full(n).Bits | 1<<at})
		}
		bad = append(bad, bitmap.Map{N: math.MinInt}, bitmap.Map{N: math.MaxInt, Bits: math.MaxUint64}, bitmap.Map{N: n + 1<<32})
		s, gone := made(t, b), made(t, b)
		if n > 0 {
			s.Next()
			wantCancel(t, gone, api.OK)
		}
		for _, m := range bad {
			wantKnow(t, s, m, api.ErrArg)
			wantAnew(t, s, m, api.ErrArg)
			wantKnow(t, gone, m, api.ErrArg)
			wantAnew(t, gone, m, api.ErrArg)
		}
		if n == 0 {
			wantKnow(t, s, bitmap.Map{}, api.OK)
			wantAnew(t, s, bitmap.Map{}, api.OK)
			wantState(t, s, 2, 0)
			continue
		}
		// Nothing has become known, and the place is where it was.
		wantState(t, s, 0, n)
		wantNext(t, s, b, 1%n)
	}
}

// P26.1 and P26.2: a file that was cancelled tells nothing any more.
func TestCancel(t *testing.T) {
	b := text(200)
	s := made(t, b)
	wantKnow(t, s, mapOf(4, 1), api.OK)
	was := s.Info()
	wantCancel(t, s, api.OK)
	for range 2 {
		wantState(t, s, 1, 0)
		wantNothing(t, s)
		wantCancel(t, s, api.ErrState)
		for _, m := range []bitmap.Map{mapOf(4), mapOf(4, 2), full(4)} {
			wantKnow(t, s, m, api.ErrCancel)
			wantAnew(t, s, m, api.ErrCancel)
		}
	}
	if s.Info() != was {
		t.Errorf("Info = %v, was %v", s.Info(), was)
	}
	// One that is done can't be cancelled; one that is so no more can.
	done := made(t, b)
	wantKnow(t, done, full(4), api.OK)
	wantCancel(t, done, api.ErrState)
	wantState(t, done, 2, 0)
	wantKnow(t, done, mapOf(4), api.OK)
	wantAnew(t, done, mapOf(4, 3), api.OK)
	wantCancel(t, done, api.OK)
	wantState(t, done, 1, 0)
	none := made(t, nil)
	wantCancel(t, none, api.ErrState)
	wantState(t, none, 2, 0)
}

// P26.2: the lengths of the chunks that Nexts would tell, each chunk once, and nothing goes on.
func TestCosts(t *testing.T) {
	b := text(4*64 - 30)
	s := made(t, b)
	for _, most := range []int{math.MinInt, math.MinInt32, -4, -1, 0} {
		wantCosts(t, s, most)
	}
	wantCosts(t, s, 1, 64)
	wantCosts(t, s, 3, 64, 64, 64)
	for _, most := range []int{4, 5, 8, 64, 65, 1 << 32, math.MaxInt} {
		wantCosts(t, s, most, 64, 64, 64, 34)
	}
	for range 3 {
		s.Next()
	}
	wantCosts(t, s, 1, 34)
	wantCosts(t, s, 2, 34, 64)
	wantCosts(t, s, 9, 34, 64, 64, 64)
	wantKnow(t, s, mapOf(4, 0, 2), api.OK)
	wantCosts(t, s, 9, 34, 64)
	wantNext(t, s, b, 3)
	wantCosts(t, s, 9, 64, 34)
	wantNext(t, s, b, 1)
	wantKnow(t, s, mapOf(4, 1), api.OK)
	wantCosts(t, s, 9, 34)
	wantState(t, s, 0, 1)
	wantAnew(t, s, mapOf(4), api.OK)
	wantCosts(t, s, 9, 64, 64, 64, 34)
	one := made(t, text(5))
	one.Next()
	wantCosts(t, one, 9, 5)
	most := made(t, text(4096))
	if l := most.Costs(16); len(l) != 16 {
		t.Errorf("Costs(16) = %v", l)
	}
	if l := most.Costs(100); len(l) != 64 {
		t.Errorf("Costs(100) = %v", l)
	}
}

// Rules 4 and 5: what is handed in is neither changed nor kept, and nothing behind its length is read.
func TestHandedIn(t *testing.T) {
	room := append(text(100), text(100)...)
	was := bytes.Clone(room)
	s := made(t, room[:100])
	for range 3 {
		_, data, _ := s.Next()
		_ = append(data, "1234"...)
		clear(data)
	}
	if !bytes.Equal(room, was) {
		t.Fatalf("what was handed in has changed: %v", room)
	}
	clear(room)
	wantNext(t, s, was[:100], 1)
	wantNext(t, s, was[:100], 0)
	if s.Info().Sum != sha256.Sum256(was[:100]) {
		t.Errorf("the sum has become that of others")
	}
}

// Rule 5: what is handed out is new memory.
func TestHandedOut(t *testing.T) {
	b := text(200)
	s := made(t, b)
	_, kept, _ := s.Next()
	for range 8 {
		_, data, _ := s.Next()
		clear(data[:cap(data)])
		l := s.Costs(9)
		clear(l[:cap(l)])
	}
	if !bytes.Equal(kept, b[:64]) {
		t.Errorf("what was handed out has become %v", kept)
	}
	for _, i := range []int{1, 2, 3, 0} {
		wantNext(t, s, b, i)
	}
	wantCosts(t, s, 9, 64, 64, 8, 64)
}

// Senders side by side have nothing in common, also those of the same bytes.
func TestSideBySide(t *testing.T) {
	b := text(200)
	s, o := made(t, b), made(t, b)
	wantNext(t, s, b, 0)
	wantKnow(t, s, mapOf(4, 1), api.OK)
	wantNext(t, o, b, 0)
	wantNext(t, o, b, 1)
	wantCancel(t, o, api.OK)
	wantState(t, s, 0, 3)
	wantNext(t, s, b, 2)
}

// What is asked changes nothing.
func TestAskedOften(t *testing.T) {
	b := text(200)
	s := made(t, b)
	wantNext(t, s, b, 0)
	wantKnow(t, s, mapOf(4, 1), api.OK)
	for range 50 {
		wantState(t, s, 0, 3)
		wantCosts(t, s, 2, 64, 8)
		if n, ok := s.Peek(); !ok || n != 64 || s.Info().Size != 200 {
			t.Fatalf("Peek = %d, %v", n, ok)
		}
	}
	wantNext(t, s, b, 2)
}

// worded is a sender as the document words it.
type worded struct {
	b         []byte
	known     []bool
	place     int
	cancelled bool
}

func (w *worded) left() int {
	n := 0
	for _, known := range w.known {
		if !known && !w.cancelled {
			n++
		}
	}
	return n
}

func (w *worded) state() int {
	switch {
	case w.cancelled:
		return 1
	case w.left() == 0:
		return 2
	}
	return 0
}

// next is the next chunk, and -1, if there is none.
func (w *worded) next() int {
	if w.state() != 0 {
		return -1
	}
	for i := w.place; i < len(w.known); i++ {
		if !w.known[i] {
			return i
		}
	}
	return slices.Index(w.known, false)
}

// costs plays Nexts, till one is told a second time.
func (w *worded) costs(most int) []int {
	o := *w
	told := map[int]bool{}
	var l []int
	for len(l) < most {
		i := o.next()
		if i < 0 || told[i] {
			break
		}
		told[i] = true
		l = append(l, len(piece(o.b, i)))
		o.place = i + 1
	}
	return l
}

func (w *worded) take(m bitmap.Map, anew bool) api.Errno {
	if m.N != len(w.known) || m.N < 64 && m.Bits>>m.N != 0 {
		return api.ErrArg
	}
	if w.cancelled {
		return api.ErrCancel
	}
	for i := range w.known {
		has := m.Bits>>i&1 == 1
		w.known[i] = has || w.known[i] && !anew
	}
	if anew {
		w.place = 0
	}
	return api.OK
}

func (w *worded) cancel() api.Errno {
	if w.state() != 0 {
		return api.ErrState
	}
	w.cancelled = true
	return api.OK
}

// anyMap is mostly one of n chunks that may be.
func anyMap(r *rand.Rand, n int) bitmap.Map {
	m := bitmap.Map{N: n, Bits: r.Uint64() & r.Uint64() & r.Uint64() & r.Uint64()}
	if r.Intn(20) == 0 {
		m.N += r.Intn(3) - 1
	}
	if r.Intn(20) == 0 {
		m.Bits = math.MaxUint64
	}
	if n < 64 && r.Intn(20) > 0 {
		m.Bits &= 1<<n - 1
	}
	return m
}

func wantWorded(t *testing.T, s *file.Sender, w *worded, r *rand.Rand) {
	t.Helper()
	wantState(t, s, w.state(), w.left())
	for _, most := range []int{r.Intn(70) - 2, 16, 64, math.MaxInt} {
		wantCosts(t, s, most, w.costs(most)...)
	}
	i := w.next()
	if i < 0 {
		wantNothing(t, s)
		return
	}
	if n, ok := s.Peek(); !ok || n != len(piece(w.b, i)) {
		t.Fatalf("Peek = %d, %v, want %d", n, ok, len(piece(w.b, i)))
	}
}

// P1, P26.1 to P26.3, anything, held against the document's own wording.
func TestWorded(t *testing.T) {
	seen := map[api.Errno]int{}
	for seed := range int64(600) {
		r := rand.New(rand.NewSource(seed))
		b := make([]byte, sizes[r.Intn(len(sizes))])
		if r.Intn(2) == 0 {
			b = make([]byte, r.Intn(4097))
		}
		r.Read(b)
		s, w := made(t, b), &worded{b: b, known: make([]bool, count(b))}
		for range 60 {
			got, want := api.OK, api.OK
			switch r.Intn(12) {
			case 0, 1:
				m := anyMap(r, count(b))
				got, want = s.Know(m), w.take(m, false)
			case 2:
				m := anyMap(r, count(b))
				got, want = s.Anew(m), w.take(m, true)
			case 3:
				// Mostly where it is refused, so that not all are cancelled.
				if r.Intn(10) == 0 || w.state() != 0 {
					got, want = s.Cancel(), w.cancel()
				}
			default:
				if i := w.next(); i >= 0 {
					wantNext(t, s, b, i)
					w.place = i + 1
				}
			}
			if got != want {
				t.Fatalf("%v, want %v", got, want)
			}
			seen[got]++
			wantWorded(t, s, w, r)
		}
	}
	for _, e := range []api.Errno{api.OK, api.ErrArg, api.ErrCancel, api.ErrState} {
		if seen[e] < 100 {
			t.Errorf("%v was answered %d times", e, seen[e])
		}
	}
}

// P26.3 and P26.4: no Next tells a chunk that is known; as many as Left tell all that are left, each once, wherever the place is.
func TestAllLeftOnce(t *testing.T) {
	r := rand.New(rand.NewSource(26))
	for range 3000 {
		b := make([]byte, 1+r.Intn(4096))
		n := count(b)
		s := made(t, b)
		for range r.Intn(2 * n) {
			s.Next()
		}
		m := anyMap(r, n)
		if s.Know(m) != api.OK {
			m = mapOf(n)
		}
		for range r.Intn(n) {
			s.Next()
		}
		costs := s.Costs(math.MaxInt)
		told := m
		for k := range s.Left() {
			i, data, ok := s.Next()
			if !ok || told.Has(i) || len(data) != costs[k] {
				t.Fatalf("Next = %d, %d bytes, %v; %v are known, %v were told", i, len(data), ok, m, told)
			}
			told, _ = told.With(i)
		}
		if !told.Full() {
			t.Fatalf("of %v all but %v were told", m, told)
		}
	}
}

// P6: chunks that come or are lost, doubled and damaged, and maps that come late: a file that is done at the sender is
// whole at the store, and what is whole is what was offered.
func TestIntoAStore(t *testing.T) {
	r := rand.New(rand.NewSource(261))
	for range 400 {
		b := make([]byte, r.Intn(4097))
		r.Read(b)
		s, at := made(t, b), store.New()
		if _, e := at.Open(s.Info()); e != api.OK {
			t.Fatalf("Open: %v", e)
		}
		for steps := 0; s.State() == 0; steps++ {
			if steps > 20*64 {
				t.Fatalf("%d chunks are left behind %d steps", s.Left(), steps)
			}
			i, data, ok := s.Next()
			if !ok {
				t.Fatalf("nothing is told, and yet %d are left", s.Left())
			}
			for range r.Intn(3) {
				if e := at.Write(7, i, data); e != api.OK {
					t.Fatalf("Write(%d) of %d bytes: %v", i, len(data), e)
				}
			}
			if steps < 100 && r.Intn(30) == 0 {
				at.Damage(7, r.Intn(64), r.Intn(64), 1)
				m, _ := at.Map(7)
				s.Anew(m)
			}
			if r.Intn(5) == 0 {
				m, _ := at.Map(7)
				s.Know(m)
			}
		}
		if got, e := at.Whole(7); e != api.OK || !bytes.Equal(got, b) {
			t.Fatalf("a file that is done is not whole: %v", e)
		}
	}
}
