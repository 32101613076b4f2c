// Package word writes numbers as bytes, and reads them. It is layer 1: see shared/doc/01-word.md.
package word

import (
	"bytes"

	"hauberk/api"
)

const (
	digit   = 7          // bits of a number that one byte holds
	more    = 1 << digit // the bit of a byte that is not a number's last one
	mask    = more - 1   // the bits of a byte that are the number's
	longest = 8          // bytes of the greatest number, in seven bits a byte
	widest  = 8          // bytes of the greatest number of a fixed size
	highest = 1<<63 - 1  // the greatest int
)

// Writer gathers what is written.
type Writer struct {
	made    bool // tells one that Write made from a zero one
	written []byte
}

// Write answers a writer without bytes.
func Write() *Writer { return &Writer{made: true} }

func (w *Writer) isNone() bool { return w == nil || !w.made }

// Put writes v in as few bytes as it takes, seven bits each, the lowest first.
func (w *Writer) Put(v int) api.Errno {
	switch {
	case w.isNone():
		return api.ErrNil
	case v < 0 || v > api.MaxNumber:
		return api.ErrRange
	}
	w.put(uint64(v))
	return api.OK
}

func (w *Writer) put(v uint64) {
	for ; v >= more; v >>= digit {
		w.written = append(w.written, byte(v&mask|more))
	}
	w.written = append(w.written, byte(v))
}

// Fixed writes v in size bytes, the highest first.
func (w *Writer) Fixed(v, size int) api.Errno {
	switch {
	case w.isNone():
		return api.ErrNil
	case size < 1 || size > widest:
		return api.ErrArg
	case v < 0 || uint64(v)>>(8*size) != 0:
		return api.ErrRange
	}
	for left := size - 1; left >= 0; left-- {
		w.written = append(w.written, byte(uint64(v)>>(8*left)))
	}
	return api.OK
}

// Octets writes b behind how many bytes it has.
func (w *Writer) Octets(b []byte) api.Errno {
	if w.isNone() {
		return api.ErrNil
	}
	w.put(uint64(len(b)))
	w.written = append(w.written, b...)
	return api.OK
}

// Bytes answers all that was written.
func (w *Writer) Bytes() []byte {
	if w.isNone() {
		return nil
	}
	return bytes.Clone(w.written)
}

// Reader goes through bytes that were written.
type Reader struct {
	made bool // tells one that New made from a zero one
	left []byte
}

// New answers a reader of b, from its first byte on.
func New(b []byte) *Reader { return &Reader{made: true, left: bytes.Clone(b)} }

func (r *Reader) isNone() bool { return r == nil || !r.made }

// Get reads a number in seven bits a byte.
func (r *Reader) Get() (int, api.Errno) {
	if r.isNone() {
		return 0, api.ErrNil
	}
	v, size, e := number(r.left)
	r.left = r.left[size:]
	return v, e
}

// number answers the number that b begins with, and how many bytes it takes (with an error none, so that nothing is read).
func number(b []byte) (v, size int, e api.Errno) {
	var sum uint64
digits:
	for i, c := range b {
		sum |= uint64(c&mask) << (digit * i)
		switch {
		case c&more == 0:
			size = i + 1
			break digits
		case i == longest-1:
			return 0, 0, api.ErrSyntax
		}
	}
	switch {
	case size == 0:
		return 0, 0, api.ErrTrunc
	case size > 1 && b[size-1] == 0: // a shorter one says the same
		return 0, 0, api.ErrSyntax
	case sum > api.MaxNumber:
		return 0, 0, api.ErrSyntax
	}
	return int(sum), size, api.OK
}

// Fixed reads a number in size bytes.
func (r *Reader) Fixed(size int) (int, api.Errno) {
	switch {
	case r.isNone():
		return 0, api.ErrNil
	case size < 1 || size > widest:
		return 0, api.ErrArg
	case size > len(r.left):
		return 0, api.ErrTrunc
	}
	var sum uint64
	for _, c := range r.left[:size] {
		sum = sum<<8 | uint64(c)
	}
	if sum > highest {
		return 0, api.ErrRange
	}
	r.left = r.left[size:]
	return int(sum), api.OK
}

// Octets reads bytes behind how many they are, at most so many.
func (r *Reader) Octets(most int) ([]byte, api.Errno) {
	if r.isNone() {
		return nil, api.ErrNil
	}
	count, size, e := number(r.left)
	switch {
	case e != api.OK:
		return nil, e
	case count > most:
		return nil, api.ErrLimit
	case count > len(r.left)-size:
		return nil, api.ErrTrunc
	}
	end := size + count
	b := bytes.Clone(r.left[size:end])
	r.left = r.left[end:]
	return b, api.OK
}

// Left answers how many bytes are left.
func (r *Reader) Left() int {
	if r.isNone() {
		return 0
	}
	return len(r.left)
}
