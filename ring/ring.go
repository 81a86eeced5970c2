// Package ring is layer 1: see shared/doc/01-ring.md.
package ring

import (
	"iter"
	"slices"

	"penstock/api"
)

// cell is room for one chunk. It holds the bytes themselves, not a slice of
// them, so that a copy of a ring shares nothing with the ring it was copied from.
type cell struct {
	size  int
	bytes [api.MaxChunk]byte
}

// chunk answers the bytes of a cell in new memory.
func (c cell) chunk() []byte {
	return slices.Clone(c.bytes[:c.size])
}

// Ring is a bounded row of chunks, as a value. The first chunk always stands in
// the first cell, and cells without a chunk are zero: rings with the same
// capacity and the same chunks are the same value, however they came about.
type Ring struct {
	capacity int
	count    int
	cells    [api.MaxDuct]cell
}

// New makes a ring of that capacity, without chunks.
func New(capacity int) (Ring, api.Errno) {
	if capacity < 1 || capacity > api.MaxDuct {
		return Ring{}, api.ErrCap
	}
	return Ring{capacity: capacity}, api.OK
}

// Push answers the ring with the chunk b behind the others.
func (r Ring) Push(b []byte) (Ring, api.Errno) {
	if len(b) < 1 || len(b) > api.MaxChunk || r.capacity == 0 {
		return r, api.ErrArg
	}
	if r.count == r.capacity {
		return r, api.ErrFull
	}
	c := cell{size: len(b)}
	copy(c.bytes[:], b)
	r.cells[r.count] = c
	r.count++
	return r, api.OK
}

// Pop answers the ring without its first chunk, and that chunk.
func (r Ring) Pop() (Ring, []byte, api.Errno) {
	if r.count == 0 {
		return r, nil, api.ErrEmpty
	}
	first := r.cells[0].chunk()
	copy(r.cells[:], r.cells[1:r.count])
	r.count--
	r.cells[r.count] = cell{}
	return r, first, api.OK
}

// Grow answers the ring with a capacity of one more.
func (r Ring) Grow() (Ring, api.Errno) {
	if r.capacity == 0 {
		return r, api.ErrArg
	}
	if r.capacity == api.MaxDuct {
		return r, api.ErrFull
	}
	r.capacity++
	return r, api.OK
}

// Clear answers the ring without chunks, of the same capacity.
func (r Ring) Clear() Ring {
	return Ring{capacity: r.capacity}
}

// Len says how many chunks the ring has.
func (r Ring) Len() int {
	return r.count
}

// Cap says how many chunks the ring may have.
func (r Ring) Cap() int {
	return r.capacity
}

// Bytes says how many bytes the chunks have together.
func (r Ring) Bytes() int {
	total := 0
	for _, b := range r.All() {
		total += len(b)
	}
	return total
}

// All goes over the chunks in order, numbered from 0 on, each in new memory.
func (r Ring) All() iter.Seq2[int, []byte] {
	return func(yield func(int, []byte) bool) {
		for i := range r.count {
			if !yield(i, r.cells[i].chunk()) {
				return
			}
		}
	}
}
