package vint_test

import (
	"bytes"
	"math"
	"math/rand"
	"slices"
	"testing"

	"longline/api"
	"longline/vint"
)

// edges are each size's first and last number, and their bytes.
var edges = []struct {
	v uint64
	b []byte
}{
	{0, []byte{0}},
	{1, []byte{1}},
	{63, []byte{63}},
	{64, []byte{64, 64}},
	{300, []byte{65, 44}},
	{16383, []byte{127, 255}},
	{16384, []byte{128, 0, 64, 0}},
	{0x01020304, []byte{129, 2, 3, 4}},
	{1<<30 - 1, []byte{191, 255, 255, 255}},
	{1 << 30, []byte{192, 0, 0, 0, 64, 0, 0, 0}},
	{0x0102030405060708, []byte{193, 2, 3, 4, 5, 6, 7, 8}},
	{api.MaxVint, []byte{255, 255, 255, 255, 255, 255, 255, 255}},
}

// beyond are numbers that have no bytes.
var beyond = []uint64{api.MaxVint + 1, api.MaxVint + 2, 1 << 63, math.MaxUint64}

func TestSize(t *testing.T) {
	for _, x := range edges {
		if n := vint.Size(x.v); n != len(x.b) {
			t.Errorf("Size(%d) = %d, want %d", x.v, n, len(x.b))
		}
	}
	for _, v := range beyond {
		if n := vint.Size(v); n != 0 {
			t.Errorf("Size(%d) = %d, want 0", v, n)
		}
	}
}

func TestPut(t *testing.T) {
	for _, x := range edges {
		b, e := vint.Put(x.v)
		if e != api.OK || !bytes.Equal(b, x.b) {
			t.Errorf("Put(%d) = %v, %v, want %v", x.v, b, e, x.b)
		}
	}
	for _, v := range beyond {
		b, e := vint.Put(v)
		if e != api.ErrRange || len(b) != 0 {
			t.Errorf("Put(%d) = %v, %v, want nothing and ErrRange", v, b, e)
		}
	}
}

func TestGet(t *testing.T) {
	for _, x := range edges {
		for _, before := range []int{0, 1, 3} {
			b := bytes.Repeat([]byte{255}, before)
			b = append(b, x.b...)
			b = append(b, 9, 9)
			v, next, e := vint.Get(b, before)
			if e != api.OK || v != x.v || next != before+len(x.b) {
				t.Errorf("Get(%v, %d) = %d, %d, %v", b, before, v, next, e)
			}
		}
		if v, next, e := vint.Get(x.b, 0); e != api.OK || v != x.v || next != len(x.b) {
			t.Errorf("Get(%v, 0) = %d, %d, %v", x.b, v, next, e)
		}
	}
}

func wantGetError(t *testing.T, b []byte, at int, want api.Errno) {
	t.Helper()
	v, next, e := vint.Get(b, at)
	if e != want || v != 0 || next != 0 {
		t.Errorf("Get(%v, %d) = %d, %d, %v, want 0, 0, %v", b, at, v, next, e, want)
	}
}

func TestGetPlaces(t *testing.T) {
	for _, b := range [][]byte{nil, {}, {1}, {64, 64}, {64, 1}} {
		for _, at := range []int{math.MinInt, math.MinInt + 1, -2, -1, len(b) + 1, len(b) + 2, math.MaxInt - 1, math.MaxInt} {
			wantGetError(t, b, at, api.ErrArg)
		}
		wantGetError(t, b, len(b), api.ErrShort)
	}
}

func TestGetShort(t *testing.T) {
	for _, x := range edges {
		for n := range len(x.b) {
			wantGetError(t, x.b[:n:n], 0, api.ErrShort)
		}
	}
	// What is too short is ErrShort, though fewer bytes would do.
	wantGetError(t, []byte{64}, 0, api.ErrShort)
	wantGetError(t, []byte{128, 0, 0}, 0, api.ErrShort)
	wantGetError(t, []byte{192, 0, 0, 0, 0, 0, 0}, 0, api.ErrShort)
	wantGetError(t, []byte{7, 192, 0, 0, 0, 0, 0, 0}, 1, api.ErrShort)
}

// wide is v in n bytes, whether or not fewer would do.
func wide(v uint64, n int) []byte {
	mark := map[int]byte{1: 0, 2: 64, 4: 128, 8: 192}[n]
	b := make([]byte, n)
	for i := range b {
		b[i] = byte(v >> (8 * (n - 1 - i)))
	}
	b[0] |= mark
	return b
}

func TestGetTooManyBytes(t *testing.T) {
	for _, x := range edges {
		for _, n := range []int{2, 4, 8} {
			if n > len(x.b) {
				wantGetError(t, wide(x.v, n), 0, api.ErrForm)
				wantGetError(t, append([]byte{5}, wide(x.v, n)...), 1, api.ErrForm)
			}
		}
	}
}

// P1.3: what is put is got as it was.
func TestNumbersThereAndBack(t *testing.T) {
	r := rand.New(rand.NewSource(1))
	try := func(v uint64) {
		b, e := vint.Put(v)
		if e != api.OK || len(b) != vint.Size(v) {
			t.Fatalf("Put(%d) = %v, %v", v, b, e)
		}
		got, next, e := vint.Get(b, 0)
		if e != api.OK || got != v || next != len(b) {
			t.Fatalf("Get(%v) = %d, %d, %v, want %d", b, got, next, e, v)
		}
	}
	for v := range uint64(1 << 17) {
		try(v)
	}
	for i := range 62 {
		try(1<<i - 1)
		try(1 << i)
		try(1<<i + 1)
	}
	for range 100000 {
		try(r.Uint64() >> (2 + r.Intn(62)))
	}
}

// P1.3: bytes that are a number are that number's bytes, so there is one way alone.
func TestNumbersOneWay(t *testing.T) {
	try := func(b []byte) {
		v, next, e := vint.Get(b, 0)
		if e != api.OK {
			return
		}
		if again, e := vint.Put(v); e != api.OK || !bytes.Equal(again, b[:next]) {
			t.Fatalf("Get(%v) = %d, but Put(%d) = %v, %v", b, v, v, again, e)
		}
	}
	for i := range 1 << 16 {
		try([]byte{byte(i >> 8), byte(i)})
		try([]byte{byte(i >> 8), 0, byte(i), 255})
		try([]byte{byte(i >> 8), byte(i), 0, 1})
		try([]byte{byte(i>>8) | 192, 0, 0, 0, byte(i), 0, 1, 2})
	}
	r := rand.New(rand.NewSource(2))
	for range 100000 {
		b := make([]byte, r.Intn(10))
		for i := range b {
			b[i] = byte(r.Intn(256)) & byte(-r.Intn(2))
		}
		if len(b) > 0 {
			b[0] |= byte(r.Intn(256))
		}
		try(b)
	}
}

// P1.4: a greater number has not fewer bytes.
func TestGreaterNotFewer(t *testing.T) {
	for i, x := range edges {
		for _, y := range edges[i:] {
			if vint.Size(y.v) < vint.Size(x.v) {
				t.Errorf("Size(%d) = %d, Size(%d) = %d", x.v, vint.Size(x.v), y.v, vint.Size(y.v))
			}
		}
	}
	last := 0
	for v := range uint64(1 << 17) {
		n := vint.Size(v)
		if n < last {
			t.Fatalf("Size(%d) = %d, the one below has %d", v, n, last)
		}
		last = n
	}
}

func sameFields(a, b []vint.Field) bool {
	return slices.EqualFunc(a, b, func(x, y vint.Field) bool {
		return x.Tag == y.Tag && bytes.Equal(x.Data, y.Data)
	})
}

func manyFields(n int, data []byte) []vint.Field {
	l := make([]vint.Field, n)
	for i := range l {
		l[i] = vint.Field{Tag: uint8(i), Data: data}
	}
	return l
}

func TestPutFields(t *testing.T) {
	for _, x := range []struct {
		l []vint.Field
		b []byte
	}{
		{nil, nil},
		{[]vint.Field{}, nil},
		{[]vint.Field{{}}, []byte{0, 0}},
		{[]vint.Field{{Tag: 7, Data: []byte{9}}, {Tag: 8}}, []byte{7, 1, 9, 8, 0}},
		{[]vint.Field{{Tag: 255, Data: []byte{}}, {Tag: 255, Data: []byte{0, 1}}}, []byte{255, 0, 255, 2, 0, 1}},
	} {
		b, e := vint.PutFields(x.l)
		if e != api.OK || !bytes.Equal(b, x.b) {
			t.Errorf("PutFields(%v) = %v, %v, want %v", x.l, b, e, x.b)
		}
		l, e := vint.Fields(x.b)
		if e != api.OK || !sameFields(l, x.l) {
			t.Errorf("Fields(%v) = %v, %v, want %v", x.b, l, e, x.l)
		}
	}
}

func TestFieldLengths(t *testing.T) {
	for n, size := range map[int]int{0: 1, 63: 1, 64: 2, 16383: 2, api.MaxField: 4} {
		data := bytes.Repeat([]byte{170}, n)
		b, e := vint.PutFields([]vint.Field{{Tag: 3, Data: data}})
		if e != api.OK || len(b) != 1+size+n || b[0] != 3 || !bytes.Equal(b[1+size:], data) {
			t.Fatalf("PutFields with %d bytes: %d bytes, %v", n, len(b), e)
		}
		l, e := vint.Fields(b)
		if e != api.OK || !sameFields(l, []vint.Field{{Tag: 3, Data: data}}) {
			t.Errorf("Fields with %d bytes: %v", n, e)
		}
		if n > 0 {
			wantFieldsError(t, b[:len(b)-1], api.ErrShort)
		}
	}
}

func TestPutFieldsLimits(t *testing.T) {
	full := bytes.Repeat([]byte{1}, api.MaxField)
	long := append(full, 1)
	if b, e := vint.PutFields(manyFields(api.MaxFields, full)); e != api.OK || len(b) != api.MaxFields*(5+api.MaxField) {
		t.Errorf("PutFields of all that may be: %d bytes, %v", len(b), e)
	}
	for _, x := range []struct {
		l    []vint.Field
		want api.Errno
	}{
		{manyFields(api.MaxFields+1, nil), api.ErrFull},
		{manyFields(1000, nil), api.ErrFull},
		{manyFields(api.MaxFields+1, long), api.ErrFull},
		{manyFields(1, long), api.ErrLong},
		{append(manyFields(api.MaxFields-1, nil), vint.Field{Data: long}), api.ErrLong},
	} {
		if b, e := vint.PutFields(x.l); e != x.want || len(b) != 0 {
			t.Errorf("PutFields of %d fields: %d bytes, %v, want %v", len(x.l), len(b), e, x.want)
		}
	}
}

func wantFieldsError(t *testing.T, b []byte, want api.Errno) {
	t.Helper()
	if l, e := vint.Fields(b); e != want || len(l) != 0 {
		t.Errorf("Fields of %d bytes: %d fields, %v, want none and %v", len(b), len(l), e, want)
	}
}

func TestFieldsErrors(t *testing.T) {
	for _, x := range []struct {
		b    []byte
		want api.Errno
	}{
		{[]byte{7}, api.ErrShort},
		{[]byte{7, 1}, api.ErrShort},
		{[]byte{7, 2, 1}, api.ErrShort},
		{[]byte{7, 64}, api.ErrShort},
		{[]byte{7, 128, 0, 64}, api.ErrShort},
		{[]byte{7, 64, 1, 9}, api.ErrForm},
		{[]byte{7, 128, 0, 63, 255}, api.ErrForm},
		// One byte more than MaxField, and the greatest number: ErrLong, though Data end too early.
		{[]byte{7, 128, 0, 64, 1}, api.ErrLong},
		{[]byte{7, 255, 255, 255, 255, 255, 255, 255, 255}, api.ErrLong},
		{[]byte{7, 128, 0, 64, 0}, api.ErrShort},
		// The first from the front on.
		{[]byte{7, 1, 9, 8}, api.ErrShort},
		{[]byte{7, 1, 9, 8, 64, 1, 7, 128, 0, 64, 1}, api.ErrForm},
		{[]byte{7, 1, 9, 8, 128, 0, 64, 1, 8, 64, 1}, api.ErrLong},
	} {
		wantFieldsError(t, x.b, x.want)
	}
	long := append([]byte{7, 128, 0, 64, 1}, make([]byte, api.MaxField+1)...)
	wantFieldsError(t, long, api.ErrLong)
}

func TestFieldsFull(t *testing.T) {
	most, e := vint.PutFields(manyFields(api.MaxFields, []byte{1, 2}))
	if e != api.OK {
		t.Fatal(e)
	}
	if l, e := vint.Fields(most); e != api.OK || !sameFields(l, manyFields(api.MaxFields, []byte{1, 2})) {
		t.Errorf("Fields of MaxFields: %d fields, %v", len(l), e)
	}
	// A field more is ErrFull at once, whatever else is wrong with it.
	for _, more := range [][]byte{{7}, {7, 0}, {7, 64}, {7, 64, 1}, {7, 128, 0, 64, 1}, {7, 5, 1}} {
		wantFieldsError(t, append(bytes.Clone(most), more...), api.ErrFull)
	}
	// What is wrong ahead of it is told.
	most[1] = 64
	wantFieldsError(t, append(most, 7, 0), api.ErrForm)
}

// P1.3: fields go there and back, in one way alone.
func TestFieldsThereAndBack(t *testing.T) {
	r := rand.New(rand.NewSource(3))
	for range 2000 {
		l := make([]vint.Field, r.Intn(12))
		for i := range l {
			l[i].Tag = uint8(r.Intn(256))
			l[i].Data = make([]byte, r.Intn(1<<r.Intn(10)))
			r.Read(l[i].Data)
		}
		b, e := vint.PutFields(l)
		if e != api.OK {
			t.Fatal(e)
		}
		got, e := vint.Fields(b)
		if e != api.OK || !sameFields(got, l) {
			t.Fatalf("Fields(%v) = %v, %v, want %v", b, got, e, l)
		}
	}
	read := 0
	for range 200000 {
		b := make([]byte, r.Intn(10))
		for i := range b {
			b[i] = byte([]int{0, 1, 2, 3, 64, 65, 128, r.Intn(256)}[r.Intn(8)])
		}
		l, e := vint.Fields(b)
		if e != api.OK {
			continue
		}
		read++
		if again, e := vint.PutFields(l); e != api.OK || !bytes.Equal(again, b) {
			t.Fatalf("Fields(%v) = %v, but PutFields = %v, %v", b, l, again, e)
		}
	}
	if read < 1000 {
		t.Errorf("only %d texts were fields", read)
	}
}

func TestFind(t *testing.T) {
	l := []vint.Field{{Tag: 1, Data: []byte{5}}, {Tag: 2}, {Tag: 1, Data: []byte{6}}, {Tag: 0, Data: []byte{7, 8}}, {Tag: 255, Data: []byte{9}}}
	for _, x := range []struct {
		tag  uint8
		want []byte
		ok   bool
	}{
		{1, []byte{5}, true},
		{2, nil, true},
		{0, []byte{7, 8}, true},
		{255, []byte{9}, true},
		{3, nil, false},
	} {
		if b, ok := vint.Find(l, x.tag); ok != x.ok || !bytes.Equal(b, x.want) {
			t.Errorf("Find(%d) = %v, %v", x.tag, b, ok)
		}
	}
	for _, none := range [][]vint.Field{nil, {}} {
		if b, ok := vint.Find(none, 0); ok || len(b) != 0 {
			t.Errorf("Find in nothing = %v, %v", b, ok)
		}
	}
	// Find has no limit of its own: what is handed in need not be written.
	many := append(manyFields(300, nil)[1:256], vint.Field{Tag: 0, Data: make([]byte, api.MaxField+1)})
	if b, ok := vint.Find(many, 0); !ok || len(b) != api.MaxField+1 {
		t.Errorf("Find among many = %d bytes, %v", len(b), ok)
	}
}

func TestNumbers(t *testing.T) {
	var all []byte
	var want []uint64
	for _, x := range edges {
		all = append(all, x.b...)
		want = append(want, x.v)
	}
	if l, e := vint.Numbers(all); e != api.OK || !slices.Equal(l, want) {
		t.Errorf("Numbers = %v, %v, want %v", l, e, want)
	}
	for _, none := range [][]byte{nil, {}} {
		if l, e := vint.Numbers(none); e != api.OK || len(l) != 0 {
			t.Errorf("Numbers of nothing = %v, %v", l, e)
		}
	}
	if l, e := vint.Numbers(make([]byte, 5000)); e != api.OK || !slices.Equal(l, make([]uint64, 5000)) {
		t.Errorf("Numbers of 5000 zeros: %d, %v", len(l), e)
	}
	for _, x := range []struct {
		b    []byte
		want api.Errno
	}{
		{[]byte{64}, api.ErrShort},
		{[]byte{1, 2, 64}, api.ErrShort},
		{[]byte{1, 64, 1, 2}, api.ErrForm},
		{[]byte{1, 64, 1, 64}, api.ErrForm},
		{[]byte{1, 192, 0, 0, 0, 0, 0, 0}, api.ErrShort},
	} {
		if l, e := vint.Numbers(x.b); e != x.want || len(l) != 0 {
			t.Errorf("Numbers(%v) = %v, %v, want none and %v", x.b, l, e, x.want)
		}
	}
}
