// Package crc is layer 2: sums of 32 bits over bytes. See shared/doc/02-crc.md.
package crc

import (
	"bytes"
	"sync"
	"sync/atomic"
)

const (
	polynomial = 0xEDB88320
	sumBytes   = 4
)

// Table is a table that is computed when it is first needed; many goroutines may use it.
type Table struct {
	once sync.Once
	made atomic.Int64
	of   [256]uint32
}

// New returns a table that has not been computed.
func New() *Table {
	return &Table{}
}

// Made returns how often the table was computed.
func (t *Table) Made() int {
	if t == nil {
		return 0
	}
	return int(t.made.Load())
}

// At returns the number of the table at index i.
func (t *Table) At(i int) uint32 {
	if t == nil || i < 0 || i >= len(t.of) {
		return 0
	}
	return t.ready()[i]
}

// Of returns the checksum of all parts, one behind the other.
func (t *Table) Of(parts ...[]byte) uint32 {
	if t == nil {
		return 0
	}
	t.ready() // no part is a use of the table, too
	var sum uint32
	for _, part := range parts {
		sum = t.More(sum, part)
	}
	return sum
}

// More returns the checksum of b after the checksum sum.
func (t *Table) More(sum uint32, b []byte) uint32 {
	if t == nil {
		return 0
	}
	table := t.ready()
	state := ^sum
	for _, x := range b {
		state = state>>8 ^ table[byte(state)^x]
	}
	return ^state
}

// Seal returns b followed by its checksum.
func (t *Table) Seal(b []byte) []byte {
	if t == nil {
		return nil
	}
	sum := lowestFirst(t.Of(b))
	return append(bytes.Clone(b), sum[:]...)
}

// Fits reports whether the last four bytes of b are the checksum of those before them.
func (t *Table) Fits(b []byte) bool {
	if t == nil {
		return false
	}
	t.ready()
	at := len(b) - sumBytes
	if at < 0 {
		return false
	}
	sum := lowestFirst(t.Of(b[:at]))
	return bytes.Equal(sum[:], b[at:])
}

// ready returns the table, which its first caller computes.
func (t *Table) ready() *[256]uint32 {
	t.once.Do(t.compute)
	return &t.of
}

func (t *Table) compute() {
	for i := range t.of {
		t.of[i] = shifted(uint32(i))
	}
	t.made.Add(1)
}

// Slow returns the checksum of b, computed bit by bit.
func Slow(b []byte) uint32 {
	state := ^uint32(0)
	for _, x := range b {
		state = shifted(state ^ uint32(x))
	}
	return ^state
}

// Turn returns b, in which the bits from bit on are flipped where pattern has a 1.
func Turn(b []byte, bit int, pattern uint32) []byte {
	turned := bytes.Clone(b)
	if bit < 0 || bit/8 >= len(b) { // no bit there; a bit that is there is far from where bit+k would run over
		return turned
	}
	for k := range 32 {
		at := bit + k
		if pattern>>k&1 == 1 && at/8 < len(b) {
			turned[at/8] ^= 1 << (at % 8)
		}
	}
	return turned
}

// shifted returns the state after eight shifts.
func shifted(state uint32) uint32 {
	for range 8 {
		out := state & 1
		state >>= 1
		if out == 1 {
			state ^= polynomial
		}
	}
	return state
}

func lowestFirst(n uint32) [sumBytes]byte {
	return [sumBytes]byte{byte(n), byte(n >> 8), byte(n >> 16), byte(n >> 24)}
}
