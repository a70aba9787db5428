package store_test

import (
	"bytes"
	"crypto/sha256"
	"hash/crc32"
	"math"
	"math/rand"
	"slices"
	"testing"

	"longline/api"
	"longline/bitmap"
	"longline/store"
)

// wordedChunk is one that was written, and the sum that it had then.
type wordedChunk struct {
	b   []byte
	sum uint32
}

func (c wordedChunk) sound() bool { return crc32.ChecksumIEEE(c.b) == c.sum }

// wordedFile is one as the document words it: a description, and of some of its chunks the bytes and the sum.
type wordedFile struct {
	x      store.Info
	chunks map[int]wordedChunk
}

// lengths is how many bytes each chunk has.
func (f *wordedFile) lengths() []int {
	var l []int
	for left := f.x.Size; left > 0; left -= 64 {
		l = append(l, min(left, 64))
	}
	return l
}

func (f *wordedFile) sound() bitmap.Map {
	m := bitmap.Map{N: len(f.lengths())}
	for i, c := range f.chunks {
		if c.sound() {
			m.Bits |= 1 << i
		}
	}
	return m
}

// worded is a store as the document words it: a list of files.
type worded struct{ files []*wordedFile }

func (w *worded) find(id uint64) *wordedFile {
	for _, f := range w.files {
		if f.x.ID == id {
			return f
		}
	}
	return nil
}

func (w *worded) open(x store.Info) (bitmap.Map, api.Errno) {
	f := w.find(x.ID)
	switch {
	case x.ID < 1 || x.ID > 1<<62-1 || len(x.Name) < 1 || len(x.Name) > 24 || x.Size < 0 || x.Size > 4096:
		return bitmap.Map{}, api.ErrForm
	case f != nil && (f.x.Name != x.Name || f.x.Size != x.Size || f.x.Sum != x.Sum):
		return bitmap.Map{}, api.ErrState
	case f == nil && len(w.files) == 16:
		return bitmap.Map{}, api.ErrFull
	case f == nil:
		f = &wordedFile{x: x, chunks: map[int]wordedChunk{}}
		w.files = append(w.files, f)
	}
	return f.sound(), api.OK
}

func (w *worded) write(id uint64, i int, b []byte) api.Errno {
	f := w.find(id)
	if f == nil {
		return api.ErrNone
	}
	if l := f.lengths(); i < 0 || i >= len(l) || len(b) != l[i] {
		return api.ErrArg
	}
	f.chunks[i] = wordedChunk{b: bytes.Clone(b), sum: crc32.ChecksumIEEE(b)}
	return api.OK
}

func (w *worded) whole(id uint64) ([]byte, api.Errno) {
	f := w.find(id)
	if f == nil {
		return nil, api.ErrNone
	}
	var b []byte
	for i := range f.lengths() {
		c, ok := f.chunks[i]
		if !ok || !c.sound() {
			return nil, api.ErrShort
		}
		b = append(b, c.b...)
	}
	if sha256.Sum256(b) != f.x.Sum {
		return nil, api.ErrSum
	}
	return b, api.OK
}

func (w *worded) drop(id uint64) api.Errno {
	for i, f := range w.files {
		if f.x.ID == id {
			w.files = append(w.files[:i:i], w.files[i+1:]...)
			return api.OK
		}
	}
	return api.ErrNone
}

func (w *worded) damage(id uint64, i, at int, by byte) api.Errno {
	f := w.find(id)
	if f == nil {
		return api.ErrNone
	}
	c, ok := f.chunks[i]
	if !ok || at < 0 || at >= len(c.b) {
		return api.ErrArg
	}
	c.b[at] ^= by
	return api.OK
}

func (w *worded) ids() []uint64 {
	var l []uint64
	for _, f := range w.files {
		l = append(l, f.x.ID)
	}
	slices.Sort(l)
	return l
}

// offers are files of a few sizes that stores in one test are given; their IDs are 1 and up.
func offers(r *rand.Rand) [][]byte {
	var l [][]byte
	for range 20 {
		b := make([]byte, r.Intn(260))
		switch r.Intn(8) {
		case 0:
			b = nil
		case 1:
			b = make([]byte, 64*(1+r.Intn(3)))
		case 2:
			b = make([]byte, 4096-r.Intn(3))
		}
		r.Read(b)
		l = append(l, b)
	}
	return l
}

// player plays the same on a store and on what the document words.
type player struct {
	t      *testing.T
	r      *rand.Rand
	s      *store.Store
	w      *worded
	offers [][]byte
	seen   map[api.Errno]int
	// wholes is how often a file of some chunks was whole.
	wholes int
}

// id is mostly one of those that are offered.
func (p *player) id() uint64 {
	switch p.r.Intn(30) {
	case 0:
		return 0
	case 1:
		return p.r.Uint64()
	}
	if p.r.Intn(3) == 0 {
		return uint64(1 + p.r.Intn(20))
	}
	// A few come more often than others, so that they get whole.
	return uint64(1 + p.r.Intn(4))
}

func (p *player) offer(id uint64) []byte {
	if id < 1 || id > 20 {
		return nil
	}
	return p.offers[id-1]
}

// index is mostly a chunk that there is.
func (p *player) index(b []byte) int {
	switch p.r.Intn(30) {
	case 0:
		return []int{math.MinInt, -1, 64, math.MaxInt}[p.r.Intn(4)]
	case 1:
		return count(b)
	}
	return p.r.Intn(count(b) + 1)
}

func (p *player) open(id uint64) {
	x := infoOf(id, "file", p.offer(id))
	switch p.r.Intn(20) {
	case 0:
		x.Name += "s"
	case 1:
		x.Sum[p.r.Intn(32)] ^= 1
	case 2:
		x.Size = p.r.Intn(5000) - 400
	}
	m, e := p.s.Open(x)
	want, f := p.w.open(x)
	if m != want || e != f {
		p.t.Fatalf("Open(%v) = %v, %v, want %v, %v", x, m, e, want, f)
	}
	p.seen[e]++
}

func (p *player) write(id uint64) {
	b := p.offer(id)
	i := p.index(b)
	data := text(p.r.Intn(66))
	if i >= 0 && i < count(b) && p.r.Intn(20) > 0 {
		data = bytes.Clone(piece(b, i))
	}
	if len(data) > 0 && p.r.Intn(40) == 0 {
		data[0] ^= 1
	}
	e := p.s.Write(id, i, data)
	if f := p.w.write(id, i, data); e != f {
		p.t.Fatalf("Write(%d, %d) of %d bytes: %v, want %v", id, i, len(data), e, f)
	}
	p.seen[e]++
}

func (p *player) damage(id uint64) {
	i, at, by := p.index(p.offer(id)), p.r.Intn(70)-3, byte(p.r.Intn(256))
	e := p.s.Damage(id, i, at, by)
	if f := p.w.damage(id, i, at, by); e != f {
		p.t.Fatalf("Damage(%d, %d, %d, %d): %v, want %v", id, i, at, by, e, f)
	}
	p.seen[e]++
}

func (p *player) drop(id uint64) {
	e := p.s.Drop(id)
	if f := p.w.drop(id); e != f {
		p.t.Fatalf("Drop(%d): %v, want %v", id, e, f)
	}
	p.seen[e]++
}

// ask holds all that can be asked of a file against each other, and the list of all.
func (p *player) ask(id uint64) {
	b, e := p.s.Whole(id)
	want, f := p.w.whole(id)
	if !bytes.Equal(b, want) || e != f {
		p.t.Fatalf("Whole(%d) = %v, %v, want %v, %v", id, b, e, want, f)
	}
	// P6: what is whole is what was offered.
	if e == api.OK && !bytes.Equal(b, p.offer(id)) {
		p.t.Fatalf("Whole(%d) is not what was offered", id)
	}
	p.seen[e]++
	if len(b) > 64 {
		p.wholes++
	}
	m, e := p.s.Map(id)
	switch o := p.w.find(id); {
	case o == nil && (m != bitmap.Map{} || e != api.ErrNone):
		p.t.Fatalf("Map(%d) = %v, %v", id, m, e)
	case o != nil && (m != o.sound() || e != api.OK):
		p.t.Fatalf("Map(%d) = %v, %v, want %v", id, m, e, o.sound())
	}
	if l := p.s.IDs(); !slices.Equal(l, p.w.ids()) {
		p.t.Fatalf("IDs = %v, want %v", l, p.w.ids())
	}
}

// P1, P25.1 to P25.4, anything, held against the document's own wording.
func TestWorded(t *testing.T) {
	seen, wholes := map[api.Errno]int{}, 0
	for seed := range int64(120) {
		r := rand.New(rand.NewSource(seed))
		p := &player{t: t, r: r, s: store.New(), w: &worded{}, offers: offers(r), seen: seen}
		for range 600 {
			id := p.id()
			switch r.Intn(50) {
			case 0:
				p.drop(id)
			case 1, 2:
				p.damage(id)
			case 3, 4, 5, 6, 7, 8, 9:
				p.open(id)
			case 10, 11:
				p.open(uint64(1 + r.Intn(20)))
			default:
				p.write(id)
			}
			p.ask(id)
		}
		wholes += p.wholes
	}
	if wholes < 1000 {
		t.Errorf("files of some chunks were whole %d times", wholes)
	}
	for _, e := range []api.Errno{api.OK, api.ErrForm, api.ErrState, api.ErrFull, api.ErrNone, api.ErrArg, api.ErrShort, api.ErrSum} {
		if seen[e] < 200 {
			t.Errorf("%v was answered %d times", e, seen[e])
		}
	}
}
