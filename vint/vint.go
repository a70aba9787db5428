// Package vint is layer 1: see shared/doc/01-vint.md.
package vint

import (
	"bytes"

	"longline/api"
)

// Field is a tag, and bytes.
type Field struct {
	Tag  uint8
	Data []byte
}

// The place of a size is what the first byte's two highest bits say.
var sizes = [4]int{1, 2, 4, 8}

// sizeMark is the place in sizes of the least size that has room for a number.
func sizeMark(v uint64) (int, bool) {
	for mark, n := range sizes {
		if v>>(8*n-2) == 0 {
			return mark, true
		}
	}
	return 0, false
}

// Size is how many bytes a number has.
func Size(v uint64) int {
	mark, ok := sizeMark(v)
	if !ok {
		return 0
	}
	return sizes[mark]
}

// appendNumber is for a number that has a size.
func appendNumber(b []byte, v uint64) []byte {
	mark, _ := sizeMark(v)
	n := sizes[mark]
	v |= uint64(mark) << (8*n - 2)
	for i := n - 1; i >= 0; i-- {
		b = append(b, byte(v>>(8*i)))
	}
	return b
}

// Put is a number's bytes.
func Put(v uint64) ([]byte, api.Errno) {
	n := Size(v)
	if n == 0 {
		return nil, api.ErrRange
	}
	return appendNumber(make([]byte, 0, n), v), api.OK
}

// Get is bytes' number, and the place behind it.
func Get(b []byte, at int) (uint64, int, api.Errno) {
	if at < 0 || at > len(b) {
		return 0, 0, api.ErrArg
	}
	rest := b[at:]
	if len(rest) == 0 {
		return 0, 0, api.ErrShort
	}
	n := sizes[rest[0]>>6]
	if len(rest) < n {
		return 0, 0, api.ErrShort
	}
	v := uint64(rest[0] & 63)
	for _, c := range rest[1:n] {
		v = v<<8 | uint64(c)
	}
	if Size(v) != n {
		return 0, 0, api.ErrForm
	}
	return v, at + n, api.OK
}

// PutFields is fields' bytes.
func PutFields(l []Field) ([]byte, api.Errno) {
	if len(l) > api.MaxFields {
		return nil, api.ErrFull
	}
	room := 0
	for _, f := range l {
		if len(f.Data) > api.MaxField {
			return nil, api.ErrLong
		}
		room += 1 + Size(uint64(len(f.Data))) + len(f.Data)
	}
	b := make([]byte, 0, room)
	for _, f := range l {
		b = append(b, f.Tag)
		b = appendNumber(b, uint64(len(f.Data)))
		b = append(b, f.Data...)
	}
	return b, api.OK
}

// Fields is bytes' fields.
func Fields(b []byte) ([]Field, api.Errno) {
	var l []Field
	fault := api.OK
	at := 0
read:
	for at < len(b) {
		n, from, e := Get(b, at+1)
		switch {
		case len(l) == api.MaxFields:
			fault = api.ErrFull
			break read
		case e != api.OK:
			fault = e
			break read
		case n > api.MaxField:
			fault = api.ErrLong
			break read
		case n > uint64(len(b)-from):
			fault = api.ErrShort
			break read
		}
		to := from + int(n)
		// Data of its own, so that no field shares memory with b or with another one.
		l = append(l, Field{Tag: b[at], Data: bytes.Clone(b[from:to])})
		at = to
	}
	if fault != api.OK {
		return nil, fault
	}
	return l, api.OK
}

// Find is the bytes of the first field with a tag.
func Find(l []Field, tag uint8) ([]byte, bool) {
	for _, f := range l {
		if f.Tag == tag {
			return bytes.Clone(f.Data), true
		}
	}
	return nil, false
}

// Numbers is the numbers that stand in bytes.
func Numbers(b []byte) ([]uint64, api.Errno) {
	var l []uint64
	for at := 0; at < len(b); {
		v, next, e := Get(b, at)
		if e != api.OK {
			return nil, e
		}
		l = append(l, v)
		at = next
	}
	return l, api.OK
}
