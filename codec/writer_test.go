package codec_test

import (
	"bytes"
	"math"
	"slices"
	"testing"

	"colonnade/api"
	"colonnade/codec"
)

// expectOut tells if the writer's bytes are not those wanted.
func expectOut(t *testing.T, name string, w *codec.Writer, want []byte) {
	t.Helper()
	if out := w.Out(); !bytes.Equal(out, want) {
		t.Errorf("%s: %.80v was written; want %.80v", name, out, want)
	}
	if w.Len() != len(want) {
		t.Errorf("%s: Len() = %d; want %d", name, w.Len(), len(want))
	}
}

// filled returns a writer with n bytes.
func filled(t *testing.T, n int) (*codec.Writer, []byte) {
	t.Helper()
	w := codec.NewWriter()
	s := bytes.Repeat([]byte{'x'}, n-2)
	if e := w.Bytes(s); e != api.OK {
		t.Fatalf("Bytes of %d bytes: %d", len(s), e)
	}
	return w, append(s, 0, 0)
}

func TestP31New(t *testing.T) {
	expectOut(t, "a new writer", codec.NewWriter(), nil)
	a, b := codec.NewWriter(), codec.NewWriter()
	a.Int(1)
	expectOut(t, "another writer", b, nil)
}

func TestP31Int(t *testing.T) {
	for n, want := range namedInts() {
		w := codec.NewWriter()
		if e := w.Int(n); e != api.OK {
			t.Errorf("Int(%d): %d", n, e)
		}
		expectOut(t, "Int", w, want)
	}
	w := codec.NewWriter()
	var all []byte
	for _, n := range edges() {
		if e := w.Int(n); e != api.OK {
			t.Errorf("Int(%d): %d", n, e)
		}
		all = append(all, wantInt(n)...)
		expectOut(t, "Int", w, all)
	}
}

func TestP31BytesAndText(t *testing.T) {
	for _, x := range []struct {
		s    string
		want []byte
	}{
		{"a\x00b", []byte{97, 0, 1, 98, 0, 0}}, {"", []byte{0, 0}}, {"\x00", []byte{0, 1, 0, 0}}, {"\x00\x00", []byte{0, 1, 0, 1, 0, 0}},
		{"\x01", []byte{1, 0, 0}}, {"\x00\x01", []byte{0, 1, 1, 0, 0}}, {"é\xff", []byte{195, 169, 255, 0, 0}},
	} {
		w, v := codec.NewWriter(), codec.NewWriter()
		if a, b := w.Bytes([]byte(x.s)), v.Text(x.s); a != api.OK || b != api.OK {
			t.Errorf("Bytes and Text of %q: %d, %d", x.s, a, b)
		}
		expectOut(t, "Bytes", w, x.want)
		expectOut(t, "Text", v, x.want)
	}
	w, v := codec.NewWriter(), codec.NewWriter()
	var all []byte
	for _, s := range byteStrings(3) {
		w.Bytes(s)
		v.Text(string(s))
		all = append(all, wantBytes(s)...)
	}
	w.Bytes(nil)
	v.Text("")
	all = append(all, 0, 0)
	expectOut(t, "Bytes", w, all)
	expectOut(t, "Text", v, all)
}

func TestP31Flag(t *testing.T) {
	w := codec.NewWriter()
	for _, yes := range []bool{true, false, true} {
		if e := w.Flag(yes); e != api.OK {
			t.Errorf("Flag(%v): %d", yes, e)
		}
	}
	expectOut(t, "Flag", w, []byte{129, 128, 129})
}

func TestP31ExactlyFull(t *testing.T) {
	for _, write := range []func(w *codec.Writer) (api.Errno, []byte){
		func(w *codec.Writer) (api.Errno, []byte) { return w.Int(math.MinInt64), wantInt(math.MinInt64) },
		func(w *codec.Writer) (api.Errno, []byte) { return w.Int(-121), wantInt(-121) },
		func(w *codec.Writer) (api.Errno, []byte) { return w.Int(119), wantInt(119) },
		func(w *codec.Writer) (api.Errno, []byte) { return w.Bytes([]byte{0, 1}), []byte{0, 1, 1, 0, 0} },
		func(w *codec.Writer) (api.Errno, []byte) { return w.Bytes(nil), []byte{0, 0} },
		func(w *codec.Writer) (api.Errno, []byte) { return w.Text("a\x00"), []byte{97, 0, 1, 0, 0} },
		func(w *codec.Writer) (api.Errno, []byte) { return w.Flag(true), []byte{129} },
		func(w *codec.Writer) (api.Errno, []byte) { return w.Flag(false), []byte{128} },
	} {
		_, want := write(codec.NewWriter())
		w, before := filled(t, api.MaxBytes-len(want)+1)
		if e, _ := write(w); e != api.ErrLong {
			t.Errorf("%v with one byte too few left: %d", want, e)
		}
		expectOut(t, "after ErrLong", w, before)
		w, before = filled(t, api.MaxBytes-len(want))
		if e, _ := write(w); e != api.OK {
			t.Errorf("%v with just enough left: %d", want, e)
		}
		expectOut(t, "filled", w, append(before, want...))
		if e, _ := write(w); e != api.ErrLong {
			t.Errorf("%v in a full writer: %d", want, e)
		}
		expectOut(t, "full", w, append(before, want...))
	}
}

func TestP31WhatFitsAfterErrLong(t *testing.T) {
	w, before := filled(t, api.MaxBytes-1)
	if e := w.Int(120); e != api.ErrLong {
		t.Errorf("two bytes where one is left: %d", e)
	}
	if e := w.Text(""); e != api.ErrLong {
		t.Errorf("an empty text where one byte is left: %d", e)
	}
	if e := w.Int(7); e != api.OK {
		t.Errorf("one byte where one is left: %d", e)
	}
	expectOut(t, "filled", w, append(before, 135))
}

func TestP31OnePiece(t *testing.T) {
	zeros := make([]byte, api.MaxBytes/2)
	many := make([]byte, 4*api.MaxBytes)
	w := codec.NewWriter()
	for _, x := range []struct {
		b []byte
		e api.Errno
	}{
		{zeros, api.ErrLong}, {many, api.ErrLong}, {bytes.Repeat([]byte{1}, api.MaxBytes-1), api.ErrLong}, {zeros[1:], api.OK},
	} {
		if e := w.Bytes(x.b); e != x.e {
			t.Errorf("Bytes of %d bytes: %d; want %d", len(x.b), e, x.e)
		}
	}
	expectOut(t, "zeros", w, wantBytes(zeros[1:]))
	v := codec.NewWriter()
	if e := v.Text(string(zeros)); e != api.ErrLong || v.Len() != 0 {
		t.Errorf("Text of %d zeros: %d, Len() = %d", len(zeros), e, v.Len())
	}
	if e := v.Text(string(zeros[1:])); e != api.OK || v.Len() != api.MaxBytes {
		t.Errorf("Text of %d zeros: %d, Len() = %d", len(zeros)-1, e, v.Len())
	}
}

func TestP31NotMade(t *testing.T) {
	for _, w := range []*codec.Writer{nil, new(codec.Writer)} {
		for range 2 {
			for i, e := range []api.Errno{w.Int(1), w.Int(math.MinInt64), w.Bytes([]byte("x")), w.Bytes(nil), w.Bytes(make([]byte, api.MaxBytes)), w.Text("x"), w.Text(""), w.Flag(true), w.Flag(false)} {
				if e != api.ErrMade {
					t.Errorf("call %d of a writer that was not made: %d", i, e)
				}
			}
			if w.Len() != 0 || w.Out() != nil {
				t.Errorf("a writer that was not made has %d bytes, %v", w.Len(), w.Out())
			}
		}
	}
}

func TestP31SharesNoMemory(t *testing.T) {
	w := codec.NewWriter()
	s := []byte("a\x00b")
	w.Bytes(s)
	if !slices.Equal(s, []byte("a\x00b")) {
		t.Error("Bytes has changed its argument")
	}
	clear(s)
	out := w.Out()
	clear(out)
	out = append(out, 1, 2, 3)
	w.Int(5)
	again := w.Out()
	if want := []byte{97, 0, 1, 98, 0, 0, 133}; !bytes.Equal(again, want) {
		t.Errorf("Out() = %v; want %v", again, want)
	}
	w.Int(6)
	if !bytes.Equal(out, []byte{0, 0, 0, 0, 0, 0, 1, 2, 3}) || len(again) != 7 {
		t.Errorf("what Out returned has changed: %v, %v", out, again)
	}
}
