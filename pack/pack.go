// Package pack is layer 1: see shared/doc/01-pack.md.
package pack

import "scrutineer/api"

// numBytes is how many bytes a number has at most: nine of 7 bits, and a tenth one with the bit that is left of 64.
const numBytes = 10

// more is put to each byte of a number behind which another one stands.
const more = 128

// PutNum puts a number.
func PutNum(b []byte, n uint64) []byte {
	return addNum(copyOf(b, numBytes), n)
}

// PutInt puts a whole number.
func PutInt(b []byte, n int64) []byte {
	return PutNum(b, fold(n))
}

// PutRow puts a row.
func PutRow(b, row []byte) []byte {
	out := addNum(copyOf(b, numBytes+len(row)), uint64(len(row)))
	return append(out, row...)
}

// copyOf is the bytes in new memory, with room behind them, so that what is put there never stands in the caller's.
func copyOf(b []byte, room int) []byte {
	out := make([]byte, len(b), len(b)+room)
	copy(out, b)
	return out
}

// addNum adds a number's bytes in the room behind b.
func addNum(b []byte, n uint64) []byte {
	for n >= more {
		b = append(b, byte(n%more)+more)
		n /= more
	}
	return append(b, byte(n))
}

// fold is the number that stands for a whole one.
func fold(n int64) uint64 {
	if n < 0 {
		return 2*uint64(-1-n) + 1
	}
	return 2 * uint64(n)
}

// unfold is the whole number that a number stands for.
func unfold(n uint64) int64 {
	if n%2 == 1 {
		return -1 - int64(n/2)
	}
	return int64(n / 2)
}

// Reader takes what stands in bytes.
type Reader struct {
	// made tells a reader that New made from a zero value, which is like a nil one.
	made bool
	left []byte
	err  api.Errno
}

// New is a reader.
func New(b []byte) *Reader {
	return &Reader{made: true, left: copyOf(b, 0)}
}

// isNone tells whether there is no reader.
func (r *Reader) isNone() bool {
	return r == nil || !r.made
}

// takes tells whether anything is still taken.
func (r *Reader) takes() bool {
	return !r.isNone() && r.err == api.OK
}

// Fail sets the error, if there was none.
func (r *Reader) Fail(e api.Errno) {
	if !r.takes() || e == api.OK {
		return
	}
	r.err = e
	// Behind an error nobody asks for the bytes any more.
	r.left = nil
}

// Num takes a number.
func (r *Reader) Num(most uint64) uint64 {
	n := r.number()
	if n > most {
		r.Fail(api.ErrRange)
		return 0
	}
	return n
}

// Int takes a whole number.
func (r *Reader) Int() int64 {
	return unfold(r.number())
}

// Row takes a row.
func (r *Reader) Row(most int) []byte {
	n := r.number()
	if !r.takes() {
		return nil
	}
	if n > uint64(max(most, 0)) {
		r.Fail(api.ErrLong)
		return nil
	}
	if n > uint64(len(r.left)) {
		r.Fail(api.ErrShort)
		return nil
	}
	row := copyOf(r.left[:n], 0)
	r.left = r.left[n:]
	return row
}

// End tells the error.
func (r *Reader) End() api.Errno {
	if r.isNone() {
		return api.ErrArg
	}
	if r.err == api.OK && len(r.left) > 0 {
		return api.ErrLong
	}
	return r.err
}

// number takes a number's bytes; with an error it is 0.
func (r *Reader) number() uint64 {
	if !r.takes() {
		return 0
	}
	var n uint64
	for i := 0; ; i++ {
		if i == len(r.left) {
			r.Fail(api.ErrShort)
			return 0
		}
		c := r.left[i]
		if !fits(i, c) {
			r.Fail(api.ErrForm)
			return 0
		}
		n |= uint64(c%more) << (7 * i)
		if c < more {
			r.left = r.left[i+1:]
			return n
		}
	}
}

// fits tells whether a byte can stand at a place of a number; so the tenth one is always the last.
func fits(place int, c byte) bool {
	if place == numBytes-1 {
		return c == 1
	}
	return place == 0 || c > 0
}
