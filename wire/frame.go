package wire

import (
	"bytes"
	"slices"

	"buttress/api"
	"buttress/octet"
)

const (
	// word is how many bytes layer 3's Word has.
	word = 4

	// ahead is how many bytes of a frame stand ahead of those that it holds: their length, and that one's sum.
	ahead = 2 * word
)

// frame is b as a frame.
func frame(b []byte) ([]byte, error) {
	if len(b) > api.MaxFrame {
		return nil, refusal{api.ErrFrame}
	}
	length := octet.Word(uint32(len(b)))
	return slices.Concat(length, sum(length), b, sum(b)), nil
}

// next is what the frame at a place of s holds, and the place behind it. The length is asked for its own sum first: one that has rotted would say of what follows that it is not whole, or that it is something else.
func next(s []byte, at int) ([]byte, int, error) {
	if at < 0 || at > len(s) {
		return nil, 0, refusal{api.ErrArg}
	}
	left := s[at:]
	if len(left) < ahead {
		return nil, 0, refusal{api.ErrShort}
	}
	if !sealed(left[:ahead]) {
		return nil, 0, refusal{api.ErrSum}
	}
	length := lengthOf(left)
	if length > api.MaxFrame {
		return nil, 0, refusal{api.ErrFrame}
	}
	left = left[ahead:]
	whole := int(length) + word
	if len(left) < whole {
		return nil, 0, refusal{api.ErrShort}
	}
	if !sealed(left[:whole]) {
		return nil, 0, refusal{api.ErrSum}
	}
	return bytes.Clone(left[:length]), at + ahead + whole, nil
}

// sum is the Word of the Crc of b.
func sum(b []byte) []byte {
	return octet.Word(octet.Crc(b))
}

// sealed says whether the last Word of b is the sum of what stands ahead of it.
func sealed(b []byte) bool {
	end := len(b) - word
	return bytes.Equal(b[end:], sum(b[:end]))
}

// lengthOf is the number that stands as a Word at the beginning of b.
func lengthOf(b []byte) uint32 {
	var n uint32
	for i, x := range b[:word] {
		n |= uint32(x) << (8 * i)
	}
	return n
}
