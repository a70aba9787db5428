// Package crc is layer 2: see shared/doc/02-crc.md.
package crc

import (
	"bytes"
	"sync"
	"sync/atomic"
)

// poly is what is xor'ed in when a 1 falls out.
const poly = 0xEDB88320

// table has what each byte becomes when it was halved eight times; it is filled by the first sum that is asked for.
var (
	tableOnce sync.Once
	table     [256]uint32
)

func fillTable() {
	for i := range table {
		v := uint32(i)
		for range 8 {
			fell := v & 1
			v >>= 1
			if fell == 1 {
				v ^= poly
			}
		}
		table[i] = v
	}
}

// goOn is the sum of bytes that have a sum, and b behind them.
func goOn(sum uint32, b []byte) uint32 {
	tableOnce.Do(fillTable)
	// A sum's bits were turned at its end: turned back, it is what there was.
	v := ^sum
	for _, c := range b {
		v = v>>8 ^ table[byte(v)^c]
	}
	return ^v
}

// Summer sums bytes up.
type Summer struct {
	runs atomic.Int64
}

// More goes on from a sum.
func (s *Summer) More(sum uint32, b []byte) uint32 {
	if s != nil {
		s.runs.Add(1)
	}
	return goOn(sum, b)
}

// Runs is how many calls of More there were.
func (s *Summer) Runs() int {
	if s == nil {
		return 0
	}
	return int(s.runs.Load())
}

// Of is the sum of bytes.
func Of(b []byte) uint32 { return goOn(0, b) }

// Bytes is a sum's bytes.
func Bytes(sum uint32) [4]byte {
	return [4]byte{byte(sum), byte(sum >> 8), byte(sum >> 16), byte(sum >> 24)}
}

// Close puts bytes' sum behind them.
func Close(b []byte) []byte {
	sum := Bytes(Of(b))
	// Room of its own: what lies behind b's length is not to be written.
	closed := make([]byte, 0, len(b)+len(sum))
	closed = append(closed, b...)
	return append(closed, sum[:]...)
}

// Ends tells whether bytes end with their beginning's sum.
func Ends(b []byte) bool {
	from := len(b) - 4
	if from < 0 {
		return false
	}
	sum := Bytes(Of(b[:from]))
	return bytes.Equal(b[from:], sum[:])
}
