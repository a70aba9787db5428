package store_test

import (
	"bytes"
	"crypto/sha256"
	"math"
	"math/rand"
	"slices"
	"strings"
	"testing"

	"longline/api"
	"longline/bitmap"
	"longline/store"
)

// sizes are those at which something ends or begins, and some between.
var sizes = []int{0, 1, 2, 63, 64, 65, 100, 127, 128, 129, 500, 4031, 4032, 4033, 4095, 4096}

// farAway are numbers at which nothing is; some times Chunk leave their type, and would be small ones then.
var farAway = []int{math.MinInt, math.MinInt32, -1 << 58, -65, -64, -2, -1, 64, 65, 128, 4096, 1 << 32, 1 << 58, 1<<58 + 1, math.MaxInt}

// text is some bytes, each unlike those beside it.
func text(n int) []byte {
	b := make([]byte, n)
	for i := range b {
		b[i] = byte(i*7 + i>>8 + 1)
	}
	return b
}

// infoOf is the description of bytes.
func infoOf(id uint64, name string, b []byte) store.Info {
	return store.Info{ID: id, Name: name, Size: len(b), Sum: sha256.Sum256(b)}
}

// piece is a chunk's bytes.
func piece(b []byte, i int) []byte { return b[64*i : min(64*i+64, len(b))] }

// count is how many chunks bytes have.
func count(b []byte) int {
	n := 0
	for from := 0; from < len(b); from += 64 {
		n++
	}
	return n
}

func mapOf(n int, there ...int) bitmap.Map {
	m := bitmap.Map{N: n}
	for _, i := range there {
		m.Bits |= 1 << i
	}
	return m
}

// first is a map of n chunks, of which the first k are there.
func first(n, k int) bitmap.Map {
	m := bitmap.Map{N: n}
	for i := range k {
		m.Bits |= 1 << i
	}
	return m
}

func full(n int) bitmap.Map { return first(n, n) }

func wantOpen(t *testing.T, s *store.Store, x store.Info, want bitmap.Map) {
	t.Helper()
	if m, e := s.Open(x); e != api.OK || m != want {
		t.Fatalf("Open(%v) = %v, %v, want %v", x, m, e, want)
	}
}

func wantNotOpen(t *testing.T, s *store.Store, x store.Info, want api.Errno) {
	t.Helper()
	if m, e := s.Open(x); e != want || m != (bitmap.Map{}) {
		t.Fatalf("Open(%v) = %v, %v, want %v", x, m, e, want)
	}
}

func wantWrite(t *testing.T, s *store.Store, id uint64, i int, b []byte, want api.Errno) {
	t.Helper()
	if e := s.Write(id, i, b); e != want {
		t.Fatalf("Write(%d, %d) of %d bytes: %v, want %v", id, i, len(b), e, want)
	}
}

func wantDamage(t *testing.T, s *store.Store, id uint64, i, at int, by byte, want api.Errno) {
	t.Helper()
	if e := s.Damage(id, i, at, by); e != want {
		t.Fatalf("Damage(%d, %d, %d, %d): %v, want %v", id, i, at, by, e, want)
	}
}

func wantMap(t *testing.T, s *store.Store, id uint64, want bitmap.Map) {
	t.Helper()
	if m, e := s.Map(id); e != api.OK || m != want {
		t.Fatalf("Map(%d) = %v, %v, want %v", id, m, e, want)
	}
}

func wantWhole(t *testing.T, s *store.Store, id uint64, want []byte) {
	t.Helper()
	if b, e := s.Whole(id); e != api.OK || !bytes.Equal(b, want) {
		t.Fatalf("Whole(%d) = %v, %v, want %v", id, b, e, want)
	}
}

func wantNotWhole(t *testing.T, s *store.Store, id uint64, want api.Errno) {
	t.Helper()
	if b, e := s.Whole(id); e != want || len(b) != 0 {
		t.Fatalf("Whole(%d) = %v, %v, want %v", id, b, e, want)
	}
}

func wantIDs(t *testing.T, s *store.Store, want ...uint64) {
	t.Helper()
	if l := s.IDs(); !slices.Equal(l, want) {
		t.Fatalf("IDs = %v, want %v", l, want)
	}
}

// wantNoFile asks for all that can be asked of a file that is not there.
func wantNoFile(t *testing.T, s *store.Store, id uint64, want api.Errno) {
	t.Helper()
	if m, e := s.Map(id); e != want || m != (bitmap.Map{}) {
		t.Fatalf("Map(%d) = %v, %v, want %v", id, m, e, want)
	}
	wantNotWhole(t, s, id, want)
	if e := s.Drop(id); e != want {
		t.Fatalf("Drop(%d): %v, want %v", id, e, want)
	}
	for _, i := range append([]int{0, 1, 63}, farAway...) {
		for _, n := range []int{0, 1, 64, 65} {
			wantWrite(t, s, id, i, text(n), want)
		}
		for _, at := range []int{0, -1, 63, 64, math.MaxInt, math.MinInt} {
			wantDamage(t, s, id, i, at, 1, want)
		}
	}
}

// filled is a store that has one file, all its chunks written.
func filled(t *testing.T, id uint64, b []byte) *store.Store {
	t.Helper()
	s := store.New()
	fill(t, s, id, b)
	return s
}

func fill(t *testing.T, s *store.Store, id uint64, b []byte) {
	t.Helper()
	wantOpen(t, s, infoOf(id, "file", b), mapOf(count(b)))
	for i := range count(b) {
		wantWrite(t, s, id, i, piece(b, i), api.OK)
	}
}

// P25.1: an ID from 1 to MaxVint, a name of 1 to 24 bytes, a size from 0 to MaxChunks times Chunk, any sum.
func TestRight(t *testing.T) {
	good := store.Info{ID: 1, Name: "a", Size: 0}
	if !store.Right(good) {
		t.Errorf("%v may be", good)
	}
	try := func(x store.Info, want bool) {
		t.Helper()
		if store.Right(x) != want {
			t.Errorf("Right(%v) = %v", x, !want)
		}
	}
	for _, id := range []uint64{1, 2, 300, 1 << 32, 1<<62 - 2, 1<<62 - 1} {
		try(store.Info{ID: id, Name: "a"}, true)
	}
	for _, id := range []uint64{0, 1 << 62, 1<<62 + 1, 1 << 63, 1<<63 + 1, math.MaxUint64} {
		try(store.Info{ID: id, Name: "a"}, false)
	}
	for n := range 300 {
		try(store.Info{ID: 1, Name: strings.Repeat("n", n)}, n >= 1 && n <= 24)
		try(store.Info{ID: 1, Name: strings.Repeat("\u00e4", n)}, n >= 1 && n <= 12)
		try(store.Info{ID: 1, Name: strings.Repeat("\x00", n)}, n >= 1 && n <= 24)
		try(store.Info{ID: 1, Name: strings.Repeat("\xFF", n)}, n >= 1 && n <= 24)
	}
	for size := -200; size < 9000; size++ {
		try(store.Info{ID: 1, Name: "a", Size: size}, size >= 0 && size <= 4096)
	}
	for _, size := range []int{math.MinInt, math.MinInt32, 1 << 32, 1<<32 + 64, math.MaxInt} {
		try(store.Info{ID: 1, Name: "a", Size: size}, false)
	}
	for _, sum := range []api.Sum{{}, {1}, sha256.Sum256(nil), {31: 255}} {
		try(store.Info{ID: 7, Name: "name", Size: 100, Sum: sum}, true)
	}
	try(store.Info{}, false)
}

// P25.1: as many chunks as the size over Chunk, rounded up; each of Chunk bytes, the last one of what is left.
func TestChunksAndLength(t *testing.T) {
	for size := range 4097 {
		b := make([]byte, size)
		n := count(b)
		if store.Chunks(size) != n {
			t.Fatalf("Chunks(%d) = %d, want %d", size, store.Chunks(size), n)
		}
		for i := range n {
			if store.Length(size, i) != len(piece(b, i)) {
				t.Fatalf("Length(%d, %d) = %d, want %d", size, i, store.Length(size, i), len(piece(b, i)))
			}
		}
		for i := n; i < 130; i++ {
			if store.Length(size, i) != 0 {
				t.Fatalf("Length(%d, %d) = %d", size, i, store.Length(size, i))
			}
		}
		for _, i := range farAway {
			if store.Length(size, i) != 0 {
				t.Fatalf("Length(%d, %d) = %d", size, i, store.Length(size, i))
			}
		}
	}
	for _, size := range []int{math.MinInt, math.MinInt + 1, -4096, -64, -63, -1, 4097, 4098, 4160, 8192, 1 << 32, 1<<32 + 64, math.MaxInt - 63, math.MaxInt} {
		if store.Chunks(size) != 0 {
			t.Errorf("Chunks(%d) = %d", size, store.Chunks(size))
		}
		for _, i := range append([]int{0, 1, 63}, farAway...) {
			if store.Length(size, i) != 0 {
				t.Errorf("Length(%d, %d) = %d", size, i, store.Length(size, i))
			}
		}
	}
}

// The document's example.
func TestExample(t *testing.T) {
	if store.Chunks(100) != 2 || store.Length(100, 0) != 64 || store.Length(100, 1) != 36 || store.Length(100, 2) != 0 {
		t.Errorf("of 100 bytes: %d chunks, of %d and %d", store.Chunks(100), store.Length(100, 0), store.Length(100, 1))
	}
	b := text(100)
	s := store.New()
	wantOpen(t, s, infoOf(1, "a", b), mapOf(2))
	wantNotWhole(t, s, 1, api.ErrShort)
	wantWrite(t, s, 1, 1, b[64:], api.OK)
	wantMap(t, s, 1, mapOf(2, 1))
	wantNotWhole(t, s, 1, api.ErrShort)
	wantWrite(t, s, 1, 0, b[:64], api.OK)
	wantMap(t, s, 1, mapOf(2, 0, 1))
	wantWhole(t, s, 1, b)
}

// P25.1: a new store has no files.
func TestNew(t *testing.T) {
	s := store.New()
	if s == nil {
		t.Fatal("New is nil")
	}
	for range 2 {
		wantIDs(t, s)
		for _, id := range []uint64{0, 1, 2, 1<<62 - 1, math.MaxUint64} {
			wantNoFile(t, s, id, api.ErrNone)
		}
	}
	wantIDs(t, s)
}

// P25.1: of nil, and of one that no call made; ErrNil is the first of all errors.
func TestNone(t *testing.T) {
	var zero store.Store
	held := struct{ store.Store }{}
	for _, s := range []*store.Store{nil, &zero, new(store.Store), {}, &held.Store} {
		for range 2 {
			wantNotOpen(t, s, infoOf(1, "a", text(100)), api.ErrNil)
			wantNotOpen(t, s, store.Info{}, api.ErrNil)
			wantNotOpen(t, s, store.Info{ID: 1, Name: "a", Size: -1}, api.ErrNil)
			for _, id := range []uint64{0, 1, math.MaxUint64} {
				wantNoFile(t, s, id, api.ErrNil)
			}
			wantIDs(t, s)
		}
	}
}

// P25.2: a description that may not be is not opened, ahead of whatever else is wrong.
func TestOpenForm(t *testing.T) {
	b := text(100)
	s := filled(t, 5, b)
	for id := uint64(6); id < 21; id++ {
		wantOpen(t, s, infoOf(id, "b", nil), mapOf(0))
	}
	x := infoOf(5, "file", b)
	for _, change := range []func(*store.Info){
		func(x *store.Info) { x.ID = 0 },
		func(x *store.Info) { x.ID = 1 << 62 },
		func(x *store.Info) { x.Name = "" },
		func(x *store.Info) { x.Name = strings.Repeat("a", 25) },
		func(x *store.Info) { x.Size = -1 },
		func(x *store.Info) { x.Size = 4097 },
		func(x *store.Info) { x.Size = math.MinInt },
		func(x *store.Info) { x.Size = math.MaxInt },
		func(x *store.Info) { *x = store.Info{} },
		func(x *store.Info) { x.ID, x.Size = 99, 4097 },
	} {
		bad := x
		change(&bad)
		wantNotOpen(t, s, bad, api.ErrForm)
		wantNotOpen(t, store.New(), bad, api.ErrForm)
	}
	if len(s.IDs()) != 16 {
		t.Errorf("IDs = %v", s.IDs())
	}
	wantWhole(t, s, 5, b)
}

// P25.2: a file that is there is opened again by its own description alone, and keeps its chunks.
func TestOpenAgain(t *testing.T) {
	b := text(200)
	x := infoOf(9, "name", b)
	s := store.New()
	wantOpen(t, s, x, mapOf(4))
	wantOpen(t, s, x, mapOf(4))
	wantWrite(t, s, 9, 2, piece(b, 2), api.OK)
	wantOpen(t, s, x, mapOf(4, 2))
	wantIDs(t, s, 9)
	for _, change := range []func(*store.Info){
		func(x *store.Info) { x.Name = "nam" },
		func(x *store.Info) { x.Name = "Name" },
		func(x *store.Info) { x.Size = 199 },
		func(x *store.Info) { x.Size = 0 },
		func(x *store.Info) { x.Sum[0] ^= 1 },
		func(x *store.Info) { x.Sum[31] ^= 128 },
	} {
		other := x
		change(&other)
		wantNotOpen(t, s, other, api.ErrState)
		other.ID = 10
		o := store.New()
		wantOpen(t, o, other, mapOf(store.Chunks(other.Size)))
	}
	wantOpen(t, s, x, mapOf(4, 2))
	wantDamage(t, s, 9, 2, 0, 1, api.OK)
	wantOpen(t, s, x, mapOf(4))
	wantDamage(t, s, 9, 2, 0, 1, api.OK)
	wantOpen(t, s, x, mapOf(4, 2))
}

// P25.2: there are at most MaxFiles files; those that are there may be opened also then, and one that is dropped makes room.
func TestFull(t *testing.T) {
	s := store.New()
	b := text(65)
	for n := range uint64(16) {
		wantOpen(t, s, infoOf(100-n, "a", b), mapOf(2))
	}
	wantWrite(t, s, 90, 1, b[64:], api.OK)
	for _, id := range []uint64{1, 84, 101, 1<<62 - 1} {
		wantNotOpen(t, s, infoOf(id, "a", b), api.ErrFull)
		wantNoFile(t, s, id, api.ErrNone)
	}
	wantOpen(t, s, infoOf(90, "a", b), mapOf(2, 1))
	// Another description is told ahead of too many files.
	wantNotOpen(t, s, infoOf(90, "b", b), api.ErrState)
	if e := s.Drop(90); e != api.OK {
		t.Fatalf("Drop: %v", e)
	}
	wantOpen(t, s, infoOf(1, "a", b), mapOf(2))
	wantNotOpen(t, s, infoOf(90, "a", b), api.ErrFull)
	wantIDs(t, s, 1, 85, 86, 87, 88, 89, 91, 92, 93, 94, 95, 96, 97, 98, 99, 100)
}

// P25.2: a chunk that there is, of as many bytes as it has.
func TestWrite(t *testing.T) {
	for _, size := range sizes {
		b := text(size)
		n := count(b)
		s := store.New()
		wantOpen(t, s, infoOf(3, "a", b), mapOf(n))
		for i := range 66 {
			for _, length := range []int{0, 1, 2, 35, 36, 37, 63, 64, 65, 128, 4096} {
				if i < n && length == len(piece(b, i)) {
					continue
				}
				wantWrite(t, s, 3, i, text(length), api.ErrArg)
			}
		}
		for _, i := range farAway {
			wantWrite(t, s, 3, i, nil, api.ErrArg)
			wantWrite(t, s, 3, i, text(64), api.ErrArg)
		}
		wantMap(t, s, 3, mapOf(n))
		for i := range n {
			wantWrite(t, s, 3, i, piece(b, i), api.OK)
			wantWrite(t, s, 3, i, text(65), api.ErrArg)
			wantMap(t, s, 3, first(n, i+1))
		}
		wantWhole(t, s, 3, b)
		wantWrite(t, s, 2, 0, text(64), api.ErrNone)
		wantWrite(t, s, 4, -1, nil, api.ErrNone)
	}
}

// P25.2: a chunk is what was written last, whatever it was.
func TestWriteAgain(t *testing.T) {
	b := text(130)
	s := filled(t, 3, b)
	other := bytes.Repeat([]byte{9}, 64)
	wantWrite(t, s, 3, 1, other, api.OK)
	// It is sound, and yet not what was offered.
	wantMap(t, s, 3, full(3))
	wantNotWhole(t, s, 3, api.ErrSum)
	wantWrite(t, s, 3, 1, piece(b, 1), api.OK)
	wantWhole(t, s, 3, b)
	// What is refused leaves the chunk as it was.
	wantWrite(t, s, 3, 2, other, api.ErrArg)
	wantWrite(t, s, 3, 1, other[:63], api.ErrArg)
	wantWrite(t, s, 3, 3, other, api.ErrArg)
	wantWhole(t, s, 3, b)
	wantDamage(t, s, 3, 2, 1, 7, api.OK)
	wantWrite(t, s, 3, 2, other, api.ErrArg)
	wantMap(t, s, 3, mapOf(3, 0, 1))
}

// P25.2: a file without chunks is whole at once, if its sum is that of nothing.
func TestNoChunks(t *testing.T) {
	s := store.New()
	wantOpen(t, s, infoOf(1, "a", nil), mapOf(0))
	wantMap(t, s, 1, mapOf(0))
	wantWhole(t, s, 1, nil)
	wantOpen(t, s, store.Info{ID: 2, Name: "a"}, mapOf(0))
	wantNotWhole(t, s, 2, api.ErrSum)
	for _, i := range append([]int{0, 1}, farAway...) {
		wantWrite(t, s, 1, i, nil, api.ErrArg)
		wantDamage(t, s, 1, i, 0, 1, api.ErrArg)
	}
	wantWhole(t, s, 1, nil)
}

// P25.2 and P25.4: chunks come in any order, each as often as it likes; the file is whole behind the last one, not ahead of it.
func TestWholeInAnyOrder(t *testing.T) {
	r := rand.New(rand.NewSource(25))
	for _, size := range sizes {
		b := make([]byte, size)
		r.Read(b)
		n := count(b)
		s := store.New()
		wantOpen(t, s, infoOf(1, "a", b), mapOf(n))
		m := mapOf(n)
		for came, i := range r.Perm(n) {
			wantNotWhole(t, s, 1, api.ErrShort)
			for range 1 + came%2 {
				wantWrite(t, s, 1, i, piece(b, i), api.OK)
			}
			m.Bits |= 1 << i
			wantMap(t, s, 1, m)
		}
		wantWhole(t, s, 1, b)
	}
}

// P25.2: that a chunk is not sound is told ahead of a wrong sum.
func TestShortAheadOfSum(t *testing.T) {
	b := text(128)
	x := infoOf(1, "a", b)
	x.Sum[7] ^= 16
	s := store.New()
	wantOpen(t, s, x, mapOf(2))
	wantNotWhole(t, s, 1, api.ErrShort)
	wantWrite(t, s, 1, 0, b[:64], api.OK)
	wantNotWhole(t, s, 1, api.ErrShort)
	wantWrite(t, s, 1, 1, b[64:], api.OK)
	wantNotWhole(t, s, 1, api.ErrSum)
	wantDamage(t, s, 1, 0, 5, 1, api.OK)
	wantNotWhole(t, s, 1, api.ErrShort)
	// Each bit of the sum counts.
	for bit := range 256 {
		x := infoOf(2, "a", b)
		x.Sum[bit/8] ^= 1 << (bit % 8)
		wantOpen(t, s, x, mapOf(2))
		wantWrite(t, s, 2, 0, b[:64], api.OK)
		wantWrite(t, s, 2, 1, b[64:], api.OK)
		wantNotWhole(t, s, 2, api.ErrSum)
		s.Drop(2)
	}
}

// P25.3: a chunk of which one byte is damaged is not sound; written again it is.
func TestDamaged(t *testing.T) {
	b := text(100)
	s := filled(t, 1, b)
	fill(t, s, 2, b)
	for i := range 2 {
		for at := range piece(b, i) {
			for by := 1; by < 256; by++ {
				wantDamage(t, s, 1, i, at, byte(by), api.OK)
				wantMap(t, s, 1, mapOf(2, 1-i))
				wantNotWhole(t, s, 1, api.ErrShort)
				if by%2 == 0 {
					// The same once more: the bytes are what they were.
					wantDamage(t, s, 1, i, at, byte(by), api.OK)
				} else {
					wantWrite(t, s, 1, i, piece(b, i), api.OK)
				}
				wantMap(t, s, 1, full(2))
			}
			wantDamage(t, s, 1, i, at, 0, api.OK)
			wantWhole(t, s, 1, b)
		}
	}
	wantWhole(t, s, 2, b)
}

// P25.2: damage is of a byte that is there.
func TestDamageRefused(t *testing.T) {
	b := text(100)
	s := store.New()
	wantOpen(t, s, infoOf(1, "a", b), mapOf(2))
	for i := range 3 {
		for _, at := range []int{0, 1, 63} {
			wantDamage(t, s, 1, i, at, 1, api.ErrArg)
		}
	}
	wantWrite(t, s, 1, 1, b[64:], api.OK)
	wantDamage(t, s, 1, 0, 0, 1, api.ErrArg)
	wantDamage(t, s, 1, 1, 36, 1, api.ErrArg)
	wantDamage(t, s, 1, 1, 63, 1, api.ErrArg)
	wantDamage(t, s, 1, 2, 0, 1, api.ErrArg)
	wantWrite(t, s, 1, 0, b[:64], api.OK)
	wantDamage(t, s, 1, 0, 64, 1, api.ErrArg)
	for _, far := range farAway {
		wantDamage(t, s, 1, far, 0, 1, api.ErrArg)
		wantDamage(t, s, 1, 0, far, 1, api.ErrArg)
		wantDamage(t, s, 1, far, far, 1, api.ErrArg)
		wantDamage(t, s, 2, far, far, 1, api.ErrNone)
	}
	wantWhole(t, s, 1, b)
	wantDamage(t, s, 1, 0, 63, 1, api.OK)
	wantDamage(t, s, 1, 1, 35, 1, api.OK)
	wantMap(t, s, 1, mapOf(2))
}

// P25.2: a chunk is sound by its sum of four bytes alone; that of all tells what this one can't.
func TestUntoldDamage(t *testing.T) {
	b := text(100)
	s := filled(t, 1, b)
	// These bits, xor'ed into any bytes, leave their sum as it is.
	pattern := []byte{0x41, 0x06, 0x71, 0xDB, 0x01}
	for k, by := range pattern {
		wantMap(t, s, 1, mapOf(2, [][]int{{0, 1}, {1}, {1}, {1}, {1}}[k]...))
		wantDamage(t, s, 1, 0, 10+k, by, api.OK)
	}
	wantMap(t, s, 1, full(2))
	wantNotWhole(t, s, 1, api.ErrSum)
	for k, by := range pattern {
		wantDamage(t, s, 1, 0, 10+k, by, api.OK)
	}
	wantWhole(t, s, 1, b)
}

// P25.2: a chunk is there, whatever its bytes and their sum are, 0 too.
func TestNoughts(t *testing.T) {
	for _, b := range [][]byte{{0}, {0, 0}, make([]byte, 64), make([]byte, 100), {0x9D, 0x0A, 0xD9, 0x6D}} {
		s := store.New()
		n := count(b)
		wantOpen(t, s, infoOf(1, "a", b), mapOf(n))
		for i := range n {
			wantWrite(t, s, 1, i, piece(b, i), api.OK)
			wantMap(t, s, 1, first(n, i+1))
		}
		wantWhole(t, s, 1, b)
	}
}

// P25.2: what is dropped is gone, and only that; opened again it has no chunks.
func TestDrop(t *testing.T) {
	b, c := text(100), text(70)
	s := filled(t, 1, b)
	fill(t, s, 2, c)
	if e := s.Drop(1); e != api.OK {
		t.Fatalf("Drop: %v", e)
	}
	wantNoFile(t, s, 1, api.ErrNone)
	wantIDs(t, s, 2)
	wantWhole(t, s, 2, c)
	// There is no description any more that another one could be unlike.
	wantOpen(t, s, infoOf(1, "another", c), mapOf(2))
	wantNotWhole(t, s, 1, api.ErrShort)
	wantDamage(t, s, 1, 0, 0, 1, api.ErrArg)
	for range 2 {
		wantIDs(t, s, 1, 2)
	}
	s.Drop(1)
	s.Drop(2)
	wantIDs(t, s)
	wantNoFile(t, s, 2, api.ErrNone)
}

// P25.1: the IDs of all files, rising, in whatever order they came.
func TestIDs(t *testing.T) {
	r := rand.New(rand.NewSource(251))
	for range 200 {
		s := store.New()
		var want []uint64
		for range r.Intn(17) {
			id := 1 + r.Uint64()%(1<<62-1)
			if r.Intn(2) == 0 {
				id = 1 + uint64(r.Intn(300))
			}
			if _, e := s.Open(store.Info{ID: id, Name: "a"}); e != api.OK {
				continue
			}
			if !slices.Contains(want, id) {
				want = append(want, id)
			}
		}
		slices.Sort(want)
		wantIDs(t, s, want...)
	}
}

// Rules 4 and 5: what is handed in is neither changed nor kept, and nothing behind its length is read or written.
func TestHandedIn(t *testing.T) {
	b := text(100)
	s := store.New()
	x := infoOf(1, "a", b)
	wantOpen(t, s, x, mapOf(2))
	room := append(bytes.Clone(b), b...)
	wantWrite(t, s, 1, 0, room[:64], api.OK)
	wantWrite(t, s, 1, 1, room[64:100], api.OK)
	wantDamage(t, s, 1, 0, 3, 255, api.OK)
	wantDamage(t, s, 1, 0, 3, 255, api.OK)
	wantDamage(t, s, 1, 1, 3, 255, api.OK)
	if !bytes.Equal(room, append(bytes.Clone(b), b...)) {
		t.Errorf("what was handed in has changed: %v", room)
	}
	wantDamage(t, s, 1, 1, 3, 255, api.OK)
	clear(room)
	wantMap(t, s, 1, full(2))
	wantWhole(t, s, 1, b)
	x.Sum[0] ^= 1
	wantWhole(t, s, 1, b)
}

// Rule 5: what is handed out is new memory.
func TestHandedOut(t *testing.T) {
	for _, size := range []int{1, 64, 100, 4096} {
		b := text(size)
		s := filled(t, 1, b)
		fill(t, s, 2, b)
		got, _ := s.Whole(1)
		kept, _ := s.Whole(1)
		clear(got[:cap(got)])
		ids := s.IDs()
		clear(ids[:cap(ids)])
		wantMap(t, s, 1, full(count(b)))
		wantWhole(t, s, 1, b)
		wantWhole(t, s, 2, b)
		wantIDs(t, s, 1, 2)
		wantDamage(t, s, 1, 0, 0, 255, api.OK)
		if !bytes.Equal(kept, b) {
			t.Errorf("damage changes what was handed out")
		}
	}
}

// Stores side by side have nothing in common.
func TestSideBySide(t *testing.T) {
	b := text(100)
	s, o := filled(t, 1, b), store.New()
	wantIDs(t, o)
	wantNoFile(t, o, 1, api.ErrNone)
	wantOpen(t, o, infoOf(1, "other", b), mapOf(2))
	wantWrite(t, o, 1, 0, b[:64], api.OK)
	wantDamage(t, o, 1, 0, 0, 1, api.OK)
	wantWhole(t, s, 1, b)
	o.Drop(1)
	wantWhole(t, s, 1, b)
}

// What is asked changes nothing.
func TestAskedOften(t *testing.T) {
	b := text(150)
	s := filled(t, 1, b)
	wantDamage(t, s, 1, 1, 0, 1, api.OK)
	for range 50 {
		wantIDs(t, s, 1)
		wantMap(t, s, 1, mapOf(3, 0, 2))
		wantNotWhole(t, s, 1, api.ErrShort)
		store.Right(infoOf(1, "file", b))
	}
	wantDamage(t, s, 1, 1, 0, 1, api.OK)
	wantWhole(t, s, 1, b)
}

// Rule: as many files as there may be, each as great as it may be.
func TestAllAtOnce(t *testing.T) {
	s := store.New()
	r := rand.New(rand.NewSource(252))
	var all [][]byte
	for id := range uint64(16) {
		b := make([]byte, 4096)
		r.Read(b)
		all = append(all, b)
		fill(t, s, id+1, b)
	}
	for id, b := range all {
		wantMap(t, s, uint64(id+1), full(64))
		wantWhole(t, s, uint64(id+1), b)
	}
}
