// Package octet lays numbers as bytes, highest first, and takes them off again.
package octet

import (
	"bytes"
	"math/bits"

	"confluence/api"
)

// number is what lies in bytes.
type number interface {
	uint8 | uint16 | uint32 | uint64
}

// rest is a row of bytes of which the first ones are taken off.
type rest struct {
	row   []byte
	taken int
}

// Reader takes numbers and bytes off a row; the first thing that goes wrong stays its error.
type Reader struct {
	rest
	err api.Errno
}

// Put16 is b, and behind it the two bytes of x.
func Put16(b []byte, x uint16) []byte {
	return lay(b, x)
}

// Put32 is b, and behind it the four bytes of x.
func Put32(b []byte, x uint32) []byte {
	return lay(b, x)
}

// Put64 is b, and behind it the eight bytes of x.
func Put64(b []byte, x uint64) []byte {
	return lay(b, x)
}

// Equal tells whether a and b are the same bytes.
func Equal(a, b []byte) bool {
	return bytes.Equal(a, b)
}

// Zero tells whether no byte is other than 0.
func Zero(b []byte) bool {
	for _, x := range b {
		if x != 0 {
			return false
		}
	}
	return true
}

// Read is a reader of b's bytes.
func Read(b []byte) *Reader {
	return &Reader{rest: rest{row: grown(b, 0)}}
}

// U8 takes off one byte.
func (r *Reader) U8() byte {
	return takeOff[uint8](r)
}

// U16 takes off two bytes.
func (r *Reader) U16() uint16 {
	return takeOff[uint16](r)
}

// U32 takes off four bytes.
func (r *Reader) U32() uint32 {
	return takeOff[uint32](r)
}

// U64 takes off eight bytes.
func (r *Reader) U64() uint64 {
	return takeOff[uint64](r)
}

// Raw takes off n bytes.
func (r *Reader) Raw(n int) []byte {
	// A copy, so that a small piece that is kept does not keep the whole row.
	return grown(r.cut(n), 0)
}

// Left is how many bytes are not taken off yet.
func (r *Reader) Left() int {
	if r == nil {
		return 0
	}
	return len(r.row) - r.taken
}

// Err is the reader's error.
func (r *Reader) Err() api.Errno {
	if r == nil {
		return api.ErrNil
	}
	return r.err
}

// cut takes off n bytes of the reader's own row, or nothing.
func (r *Reader) cut(n int) []byte {
	if r.Err() != api.OK {
		return nil
	}
	if n < 0 {
		r.err = api.ErrArg
		return nil
	}
	// Not taken + n against the row's length: that sum may run over.
	if n > r.Left() {
		r.err = api.ErrShort
		return nil
	}
	from := r.taken
	r.taken += n
	return r.row[from:r.taken:r.taken]
}

// lay is b, and behind it the bytes of x, filled from the last place, as the lowest byte comes off first.
func lay[N number](b []byte, x N) []byte {
	row := grown(b, width[N]())
	left := uint64(x)
	for place := len(row) - 1; place >= len(b); place-- {
		row[place] = byte(left)
		left >>= 8
	}
	return row
}

// takeOff is the next number of a reader. It is put together in 64 bits, since one of 8 can't be shifted by 8.
func takeOff[N number](r *Reader) N {
	var x uint64
	for _, b := range r.cut(width[N]()) {
		x <<= 8
		x |= uint64(b)
	}
	return N(x)
}

// width is how many bytes a number of that type lies in.
func width[N number]() int {
	return bits.Len64(uint64(^N(0))) / 8
}

// grown is a new row: b, and n noughts. It is never a piece of b, so that the room behind b's end stays as it is.
func grown(b []byte, n int) []byte {
	row := make([]byte, len(b)+n)
	copy(row, b)
	return row
}
