package codec

import (
	"bytes"

	"colonnade/api"
)

// Writer writes encodings one behind the other, up to MaxBytes bytes.
type Writer struct {
	made bool
	out  []byte
}

// NewWriter returns a writer that has written nothing.
func NewWriter() *Writer {
	return &Writer{made: true}
}

// Int appends the encoding of n: ErrMade for a writer that NewWriter did not return, ErrLong if there would be too many bytes.
func (w *Writer) Int(n int64) api.Errno {
	if e := w.room(Size(n)); e != api.OK {
		return e
	}
	w.out = appendInt(w.out, n)
	return api.OK
}

// Bytes appends the encoding of the byte string b, with the errors of Int.
func (w *Writer) Bytes(b []byte) api.Errno {
	if e := w.room(sizeBytes(b)); e != api.OK {
		return e
	}
	w.out = appendBytes(w.out, b)
	return api.OK
}

// Text appends the encoding of the bytes of s, with the errors of Int.
func (w *Writer) Text(s string) api.Errno {
	return w.Bytes([]byte(s))
}

// Flag appends the encoding of a truth value, with the errors of Int.
func (w *Writer) Flag(yes bool) api.Errno {
	if yes {
		return w.Int(1)
	}
	return w.Int(0)
}

// Len returns how many bytes have been written.
func (w *Writer) Len() int {
	if w == nil {
		return 0
	}
	return len(w.out)
}

// Out returns a copy of the bytes that have been written.
func (w *Writer) Out() []byte {
	if w == nil {
		return nil
	}
	return bytes.Clone(w.out)
}

// room returns why n more bytes cannot be written, or OK.
func (w *Writer) room(n int) api.Errno {
	if w == nil || !w.made {
		return api.ErrMade
	}
	if len(w.out)+n > api.MaxBytes {
		return api.ErrLong
	}
	return api.OK
}
