package codec

import (
	"bytes"

	"colonnade/api"
)

// Reader reads encodings one behind the other. After an error it stays where it was.
type Reader struct {
	made bool
	left []byte
}

// NewReader returns a reader at the beginning of a copy of b.
func NewReader(b []byte) *Reader {
	return &Reader{made: true, left: bytes.Clone(b)}
}

// Int reads an integer: ErrMade for a reader that NewReader did not return; ErrEnds if there are too few bytes; ErrForm if fewer would have sufficed, or the number is not an int64.
func (r *Reader) Int() (int64, api.Errno) {
	if !r.isMade() {
		return 0, api.ErrMade
	}
	n, size, e := takeInt(r.left)
	r.left = r.left[size:]
	return n, e
}

// Bytes reads a byte string: ErrMade as Int; for the first problem ErrForm at a 0 that is followed by neither 0 nor 1, or ErrEnds if there is no end.
func (r *Reader) Bytes() ([]byte, api.Errno) {
	if !r.isMade() {
		return nil, api.ErrMade
	}
	b, size, e := takeBytes(r.left)
	r.left = r.left[size:]
	return b, e
}

// Text reads a byte string as a text, with the errors of Bytes.
func (r *Reader) Text() (string, api.Errno) {
	b, e := r.Bytes()
	return string(b), e
}

// Flag reads a truth value: the error of Int, or ErrForm if the integer is neither 0 nor 1.
func (r *Reader) Flag() (bool, api.Errno) {
	if !r.isMade() {
		return false, api.ErrMade
	}
	n, size, e := takeInt(r.left)
	if e != api.OK {
		return false, e
	}
	if n != 0 && n != 1 {
		return false, api.ErrForm
	}
	r.left = r.left[size:]
	return n == 1, api.OK
}

// Left returns how many bytes have not been read.
func (r *Reader) Left() int {
	if r == nil {
		return 0
	}
	return len(r.left)
}

// End returns ErrMore if there are bytes that have not been read; ErrMade as Int.
func (r *Reader) End() api.Errno {
	if !r.isMade() {
		return api.ErrMade
	}
	if len(r.left) > 0 {
		return api.ErrMore
	}
	return api.OK
}

func (r *Reader) isMade() bool {
	return r != nil && r.made
}
