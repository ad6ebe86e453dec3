package vault

import (
	"bytes"
	"slices"

	"buttress/api"
	"buttress/pack"
	"buttress/stripe"
)

// kind says what a step does to a chunk.
type kind byte

// A nought is no kind, for an annex has noughts behind the end of its row.
const (
	kept    kind = iota + 1 // it is there, not Done
	settled                 // it is Done
	turned                  // a bit of it is turned
	dropped                 // it is not there
)

// step is what changes a chunk. Of kept the header is the chunk's own, and its bytes are those that the header says; of the others it has the chunk's name alone, and of turned the number of the bit for Size.
type step struct {
	kind kind
	head api.Header
	data []byte
}

// put is a step as bytes.
func (s step) put() []byte {
	return slices.Concat([]byte{byte(s.kind)}, pack.PutHeader(nil, s.head), s.data)
}

// read is the step that stands at a place of a row, with the row's own bytes, and the place behind it; false if none does.
func read(row []byte, at int) (step, int, bool) {
	if at == len(row) {
		return step{}, 0, false
	}
	s := step{kind: kind(row[at])}
	head, behind, e := pack.Header(row, at+1)
	if e != api.OK || s.kind < kept || s.kind > dropped {
		return step{}, 0, false
	}
	s.head = head
	if s.kind == kept {
		length, e := stripe.Length(head.Size, head.K)
		if e != api.OK || length > len(row)-behind {
			return step{}, 0, false
		}
		s.data = row[behind : behind+length]
		behind += length
	}
	return s, behind, true
}

// making is the steps that make a chunk, as bytes.
func making(c api.Chunk) []byte {
	steps := step{kind: kept, head: c.Head, data: c.Data}.put()
	if c.Done {
		steps = append(steps, step{kind: settled, head: api.Header{ID: c.Head.ID}}.put()...)
	}
	return steps
}

// replay does the steps of a row, up to what is none.
func (v *Vault) replay(row []byte) {
	s, at, ok := read(row, 0)
	for ok {
		v.apply(s)
		s, at, ok = read(row, at)
	}
}

// apply does a step; one of a chunk that is not there, or of a bit that it has not, does nothing.
func (v *Vault) apply(s step) {
	id := s.head.ID
	c, there := v.chunks[id]
	switch s.kind {
	case kept:
		v.used += len(s.data) - len(c.Data)
		v.chunks[id] = api.Chunk{Head: s.head, Data: bytes.Clone(s.data)}
	case settled:
		if there {
			c.Done = true
			v.chunks[id] = c
		}
	case turned:
		if bit := s.head.Size; hasBit(c, bit) {
			c.Data[bit/8] ^= 1 << (bit % 8)
		}
	case dropped:
		v.used -= len(c.Data)
		delete(v.chunks, id)
	}
}
