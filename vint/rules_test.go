package vint_test

import (
	"bytes"
	"math"
	"math/rand"
	"testing"

	"longline/api"
	"longline/vint"
)

// roomy is b with memory behind its length, and a call that tells whether all of it is as it was.
func roomy(b, behind []byte) ([]byte, func() bool) {
	whole := append(bytes.Clone(b), behind...)
	was := bytes.Clone(whole)
	return whole[:len(b)], func() bool { return bytes.Equal(whole, was) }
}

// turn changes every byte of b and of the room behind it.
func turn(b []byte) {
	b = b[:cap(b)]
	for i := range b {
		b[i] ^= 255
	}
}

// What lies behind a length is not read: a number or a field that would be whole with it is short.
func TestBehindTheLength(t *testing.T) {
	b, kept := roomy([]byte{64}, []byte{64, 7, 7})
	if _, _, e := vint.Get(b, 0); e != api.ErrShort {
		t.Errorf("Get: %v", e)
	}
	if _, _, e := vint.Get(b, 2); e != api.ErrArg {
		t.Errorf("Get behind the length: %v", e)
	}
	if _, e := vint.Numbers(b); e != api.ErrShort {
		t.Errorf("Numbers: %v", e)
	}
	f, keptField := roomy([]byte{7, 1}, []byte{9, 8, 0})
	if _, e := vint.Fields(f); e != api.ErrShort {
		t.Errorf("Fields: %v", e)
	}
	if !kept() || !keptField() {
		t.Errorf("memory that was handed in has changed")
	}
}

// What is handed in is neither changed nor kept, and what is handed out is new memory.
func TestFieldsMemory(t *testing.T) {
	b, kept := roomy([]byte{7, 2, 1, 2, 8, 1, 3, 9, 0}, []byte{7, 1, 9})
	l, e := vint.Fields(b)
	if e != api.OK || len(l) != 3 || !kept() {
		t.Fatalf("Fields: %v, %v", l, e)
	}
	turn(l[1].Data)
	turn(l[2].Data)
	if !kept() || !bytes.Equal(l[0].Data, []byte{1, 2}) {
		t.Errorf("Data share memory: %v", l)
	}
	turn(l[0].Data)
	if !kept() {
		t.Errorf("Data share memory with the bytes")
	}
	again, _ := vint.Fields(b)
	turn(b)
	if !sameFields(again, []vint.Field{{Tag: 7, Data: []byte{1, 2}}, {Tag: 8, Data: []byte{3}}, {Tag: 9}}) {
		t.Errorf("the bytes were kept: %v", again)
	}
}

func TestPutFieldsMemory(t *testing.T) {
	data, kept := roomy([]byte{1, 2}, []byte{3, 4})
	l := []vint.Field{{Tag: 7, Data: data}, {Tag: 8, Data: data[:1]}, {Tag: 9}}
	b, e := vint.PutFields(l[:2])
	if e != api.OK || !bytes.Equal(b, []byte{7, 2, 1, 2, 8, 1, 1}) {
		t.Fatalf("PutFields: %v, %v", b, e)
	}
	turn(b)
	if !kept() || l[0].Tag != 7 || l[1].Tag != 8 || l[2].Tag != 9 || len(l[1].Data) != 1 {
		t.Errorf("what was handed in has changed: %v", l)
	}
}

func TestFindMemory(t *testing.T) {
	data, kept := roomy([]byte{1, 2}, []byte{3, 4})
	l := []vint.Field{{Tag: 7, Data: data}}
	b, ok := vint.Find(l, 7)
	if !ok || !bytes.Equal(b, []byte{1, 2}) {
		t.Fatalf("Find: %v, %v", b, ok)
	}
	turn(b)
	if !kept() {
		t.Errorf("Find hands out what it was given")
	}
	if b, ok := vint.Find(l[:0], 7); ok || len(b) != 0 {
		t.Errorf("Find reads behind the length: %v", b)
	}
}

func TestNewAnswers(t *testing.T) {
	a, _ := vint.Put(300)
	turn(a)
	if b, e := vint.Put(300); e != api.OK || !bytes.Equal(b, []byte{65, 44}) {
		t.Errorf("Put hands out what it keeps: %v, %v", b, e)
	}
	in, kept := roomy([]byte{1, 2, 3}, []byte{4})
	l, _ := vint.Numbers(in)
	for i := range l {
		l[i] = 0
	}
	if again, e := vint.Numbers(in); e != api.OK || len(again) != 3 || again[2] != 3 || !kept() {
		t.Errorf("Numbers hands out what it keeps: %v, %v", again, e)
	}
}

// P1: no call panics, whatever it is given; with an error every other result is zero.
func TestAnything(t *testing.T) {
	r := rand.New(rand.NewSource(4))
	places := []int{math.MinInt, -1, 0, 1, 7, 8, math.MaxInt}
	for range 100000 {
		b := make([]byte, r.Intn(20))
		r.Read(b)
		at := places[r.Intn(len(places))]
		if v, next, e := vint.Get(b, at); e != api.OK && (v != 0 || next != 0) {
			t.Fatalf("Get(%v, %d) = %d, %d, %v", b, at, v, next, e)
		}
		if l, e := vint.Fields(b); e != api.OK && len(l) != 0 {
			t.Fatalf("Fields(%v) = %v, %v", b, l, e)
		}
		if l, e := vint.Numbers(b); e != api.OK && len(l) != 0 {
			t.Fatalf("Numbers(%v) = %v, %v", b, l, e)
		}
		if b, e := vint.Put(r.Uint64()); e != api.OK && len(b) != 0 {
			t.Fatalf("Put = %v, %v", b, e)
		}
	}
}

func TestErrors(t *testing.T) {
	for e, text := range map[api.Errno]string{
		api.OK: "longline 0", api.ErrArg: "longline 1", api.ErrLong: "longline 2", api.ErrForm: "longline 3",
		api.ErrNone: "longline 4", api.ErrFull: "longline 5", api.ErrNil: "longline 6", api.ErrState: "longline 7",
		api.ErrShort: "longline 10", api.ErrRange: "longline 11", api.ErrTag: "longline 20", api.ErrSide: "longline 21",
		api.ErrOver: "longline 22", api.ErrOld: "longline 23", api.ErrBase: "longline 30", api.ErrSum: "longline 40",
		api.ErrCancel: "longline 41", api.ErrClosed: "longline 50", api.ErrLine: "longline 60",
	} {
		if e.Error() != text {
			t.Errorf("Error of %d: %q, want %q", int(e), e.Error(), text)
		}
	}
}

func TestLimits(t *testing.T) {
	got := []uint64{
		api.MaxVint, api.MaxField, api.MaxFields, api.MaxNonce, api.MaxPlain, api.MaxFrame, api.MaxParts,
		api.MaxRows, api.MaxCols, api.MaxTitle, api.MaxClip, api.MaxKeys, api.Chunk, api.MaxChunks,
		api.MaxFiles, api.MaxSent, api.MinBudget, api.MaxRTO, api.MaxText, api.MaxScript,
	}
	want := []uint64{
		4611686018427387903, 16384, 128, 9223372036854775807, 512, 24000, 64,
		12, 40, 64, 256, 512, 64, 64,
		16, 32, 24000, 64, 65536, 512,
	}
	for i := range want {
		if got[i] != want[i] {
			t.Errorf("limit %d of the list is %d, want %d", i, got[i], want[i])
		}
	}
	if len(api.Key{}) != 16 || len(api.Sum{}) != 32 {
		t.Errorf("a Key has %d bytes, a Sum %d", len(api.Key{}), len(api.Sum{}))
	}
}
