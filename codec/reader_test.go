package codec_test

import (
	"bytes"
	"math"
	"math/big"
	"math/rand"
	"slices"
	"testing"

	"colonnade/api"
	"colonnade/codec"
)

// wantRead is what Int reads from b by the chapter's words: the number, how many bytes it has, the error.
func wantRead(b []byte) (int64, int, api.Errno) {
	if len(b) == 0 {
		return 0, 0, api.ErrEnds
	}
	negative := b[0] < 128
	upright := slices.Clone(b)
	for i := range upright {
		if negative {
			upright[i] = ^upright[i]
		}
	}
	if upright[0] <= 247 {
		n := int64(upright[0]) - 128
		if negative {
			n = -n - 1
		}
		return n, 1, api.OK
	}
	size := 1 + int(upright[0]) - 247
	if len(b) < size {
		return 0, 0, api.ErrEnds
	}
	n := new(big.Int).SetBytes(upright[1:size])
	n.Add(n, big.NewInt(120))
	if negative {
		n.Not(n)
	}
	if !n.IsInt64() || !bytes.Equal(wantInt(n.Int64()), b[:size]) {
		return 0, 0, api.ErrForm
	}
	return n.Int64(), size, api.OK
}

// wantTaken is what Bytes reads from b by the chapter's words, and how many bytes that takes.
func wantTaken(b []byte) ([]byte, int, api.Errno) {
	rest := b
	for len(rest) > 0 && rest[0] != 0 || len(rest) > 1 && rest[1] == 1 {
		if rest[0] == 0 {
			rest = rest[1:]
		}
		rest = rest[1:]
	}
	switch {
	case len(rest) < 2:
		return nil, 0, api.ErrEnds
	case rest[1] != 0:
		return nil, 0, api.ErrForm
	}
	size := len(b) - len(rest) + 2
	return bytes.ReplaceAll(b[:size-2], []byte{0, 1}, []byte{0}), size, api.OK
}

// checkRead reads from b by every method, each time anew, and holds the answers against those wanted.
func checkRead(t *testing.T, b []byte) {
	t.Helper()
	n, size, e := wantRead(b)
	r := codec.NewReader(b)
	if got, g := r.Int(); got != n || g != e || r.Left() != len(b)-size {
		t.Fatalf("Int from %v = %d, %d, %d left; want %d, %d", b, got, g, r.Left(), n, e)
	}
	yes := e == api.OK && n == 1
	if e == api.OK && n != 0 && n != 1 {
		size, e = 0, api.ErrForm
	}
	r = codec.NewReader(b)
	if got, g := r.Flag(); got != yes || g != e || r.Left() != len(b)-size {
		t.Fatalf("Flag from %v = %v, %d, %d left; want %v, %d", b, got, g, r.Left(), yes, e)
	}
	s, size, e := wantTaken(b)
	r = codec.NewReader(b)
	if got, g := r.Bytes(); !bytes.Equal(got, s) || g != e || r.Left() != len(b)-size || e != api.OK && got != nil {
		t.Fatalf("Bytes from %v = %v, %d, %d left; want %v, %d", b, got, g, r.Left(), s, e)
	}
	r = codec.NewReader(b)
	if got, g := r.Text(); got != string(s) || g != e || r.Left() != len(b)-size {
		t.Fatalf("Text from %v = %q, %d, %d left; want %q, %d", b, got, g, r.Left(), s, e)
	}
}

// anyBytes are bytes like those of encodings, right and wrong ones.
func anyBytes(random *rand.Rand) []byte {
	pool := edges()
	var b []byte
	for range random.Intn(4) {
		if random.Intn(2) == 0 {
			b = append(b, wantInt(pool[random.Intn(len(pool))])...)
			continue
		}
		s := make([]byte, random.Intn(6))
		for i := range s {
			s[i] = byte(random.Intn(3))
		}
		b = append(b, wantBytes(s)...)
	}
	for range random.Intn(3) {
		if len(b) > 0 {
			b[random.Intn(len(b))] = byte(random.Intn(256) * random.Intn(2))
		}
	}
	return b[:len(b)-random.Intn(min(2, len(b)+1))]
}

func TestP32IntNamed(t *testing.T) {
	for n, b := range namedInts() {
		r := codec.NewReader(append(slices.Clone(b), 5))
		if got, e := r.Int(); got != n || e != api.OK || r.Left() != 1 {
			t.Errorf("Int from %v = %d, %d, %d left; want %d", b, got, e, r.Left(), n)
		}
	}
	for _, x := range []struct {
		b []byte
		e api.Errno
	}{
		{nil, api.ErrEnds}, {[]byte{}, api.ErrEnds}, {[]byte{248}, api.ErrEnds}, {[]byte{7}, api.ErrEnds}, {[]byte{249, 1}, api.ErrEnds}, {[]byte{6, 254}, api.ErrEnds},
		{[]byte{255, 1, 2, 3, 4, 5, 6, 7}, api.ErrEnds}, {[]byte{0, 1, 2, 3, 4, 5, 6, 7}, api.ErrEnds},
		// Too few bytes come first, even where those that are there are not the shortest, or already too great.
		{[]byte{249, 0}, api.ErrEnds}, {[]byte{255, 0, 0, 0, 0, 0, 0, 0}, api.ErrEnds}, {[]byte{255, 255, 255, 255, 255, 255, 255, 255}, api.ErrEnds}, {[]byte{0, 0, 0, 0}, api.ErrEnds},
		{[]byte{249, 0, 0}, api.ErrForm}, {[]byte{249, 0, 255}, api.ErrForm}, {[]byte{6, 255, 0}, api.ErrForm}, {[]byte{250, 0, 255, 255, 9}, api.ErrForm}, {[]byte{255, 0, 255, 255, 255, 255, 255, 255, 255}, api.ErrForm},
		{[]byte{255, 127, 255, 255, 255, 255, 255, 255, 136}, api.ErrForm}, {[]byte{0, 128, 0, 0, 0, 0, 0, 0, 119}, api.ErrForm},
		{[]byte{255, 128, 0, 0, 0, 0, 0, 0, 0}, api.ErrForm}, {[]byte{255, 255, 255, 255, 255, 255, 255, 255, 255}, api.ErrForm}, {make([]byte, 9), api.ErrForm},
	} {
		r := codec.NewReader(x.b)
		for range 2 {
			if n, e := r.Int(); n != 0 || e != x.e || r.Left() != len(x.b) {
				t.Errorf("Int from %v = %d, %d, %d left; want %d", x.b, n, e, r.Left(), x.e)
			}
			if yes, e := r.Flag(); yes || e != x.e || r.Left() != len(x.b) {
				t.Errorf("Flag from %v = %v, %d, %d left; want %d", x.b, yes, e, r.Left(), x.e)
			}
		}
	}
}

func TestP32BytesNamed(t *testing.T) {
	for _, x := range []struct {
		b    []byte
		want string
		left int
		e    api.Errno
	}{
		{[]byte{97, 0, 1, 98, 0, 0}, "a\x00b", 0, api.OK}, {[]byte{0, 0}, "", 0, api.OK}, {[]byte{0, 0, 2, 0}, "", 2, api.OK}, {[]byte{0, 1, 0, 0, 1}, "\x00", 1, api.OK}, {[]byte{255, 1, 0, 0, 0}, "\xff\x01", 1, api.OK},
		{nil, "", 0, api.ErrEnds}, {[]byte{0}, "", 1, api.ErrEnds}, {[]byte{97}, "", 1, api.ErrEnds}, {[]byte{97, 0}, "", 2, api.ErrEnds}, {[]byte{0, 1}, "", 2, api.ErrEnds}, {[]byte{0, 1, 0}, "", 3, api.ErrEnds}, {[]byte{0, 1, 1}, "", 3, api.ErrEnds},
		{[]byte{0, 2}, "", 2, api.ErrForm}, {[]byte{97, 0, 255, 0, 0}, "", 5, api.ErrForm}, {[]byte{0, 1, 0, 3}, "", 4, api.ErrForm}, {[]byte{0, 97, 98}, "", 3, api.ErrForm},
	} {
		r := codec.NewReader(x.b)
		if b, e := r.Bytes(); string(b) != x.want || e != x.e || r.Left() != x.left || e != api.OK && b != nil {
			t.Errorf("Bytes from %v = %v, %d, %d left; want %q, %d, %d left", x.b, b, e, r.Left(), x.want, x.e, x.left)
		}
		r = codec.NewReader(x.b)
		if s, e := r.Text(); s != x.want || e != x.e || r.Left() != x.left {
			t.Errorf("Text from %v = %q, %d, %d left; want %q, %d, %d left", x.b, s, e, r.Left(), x.want, x.e, x.left)
		}
	}
}

func TestP32FlagNamed(t *testing.T) {
	for _, x := range []struct {
		b    []byte
		want bool
		left int
		e    api.Errno
	}{
		{[]byte{128}, false, 0, api.OK}, {[]byte{129, 128}, true, 1, api.OK}, {nil, false, 0, api.ErrEnds}, {[]byte{248}, false, 1, api.ErrEnds},
		{[]byte{130}, false, 1, api.ErrForm}, {[]byte{127, 128}, false, 2, api.ErrForm}, {[]byte{1}, false, 1, api.ErrEnds}, {[]byte{248, 1}, false, 2, api.ErrForm}, {[]byte{249, 0, 1}, false, 3, api.ErrForm},
	} {
		r := codec.NewReader(x.b)
		if yes, e := r.Flag(); yes != x.want || e != x.e || r.Left() != x.left {
			t.Errorf("Flag from %v = %v, %d, %d left; want %v, %d, %d left", x.b, yes, e, r.Left(), x.want, x.e, x.left)
		}
	}
}

func TestP32AllOfTwoBytes(t *testing.T) {
	checkRead(t, nil)
	for a := range 256 {
		checkRead(t, []byte{byte(a)})
		for b := range 256 {
			checkRead(t, []byte{byte(a), byte(b)})
		}
	}
}

func TestP32AnyBytes(t *testing.T) {
	for _, b := range byteStrings(5) {
		checkRead(t, b)
	}
	for _, n := range edges() {
		b := wantInt(n)
		for i := range b {
			checkRead(t, b[:i])
			for _, c := range []byte{0, 1, 127, 128, 254, 255, b[i] - 1, b[i] + 1} {
				changed := append(slices.Clone(b), 9)
				changed[i] = c
				checkRead(t, changed)
			}
		}
	}
	random := rand.New(rand.NewSource(32))
	for range 20000 {
		checkRead(t, anyBytes(random))
	}
}

func TestP32StaysAfterAnError(t *testing.T) {
	r := codec.NewReader([]byte{129, 130, 97, 0, 0, 249, 0, 5})
	if yes, e := r.Flag(); !yes || e != api.OK {
		t.Errorf("Flag = %v, %d", yes, e)
	}
	if yes, e := r.Flag(); yes || e != api.ErrForm || r.Left() != 7 {
		t.Errorf("Flag = %v, %d, %d left", yes, e, r.Left())
	}
	if n, e := r.Int(); n != 2 || e != api.OK || r.Left() != 6 {
		t.Errorf("Int = %d, %d, %d left", n, e, r.Left())
	}
	if s, e := r.Text(); s != "a" || e != api.OK || r.Left() != 3 {
		t.Errorf("Text = %q, %d, %d left", s, e, r.Left())
	}
	if n, e := r.Int(); n != 0 || e != api.ErrForm || r.Left() != 3 {
		t.Errorf("Int = %d, %d, %d left", n, e, r.Left())
	}
	if b, e := r.Bytes(); b != nil || e != api.ErrForm || r.Left() != 3 {
		t.Errorf("Bytes = %v, %d, %d left", b, e, r.Left())
	}
	if e := r.End(); e != api.ErrMore || r.Left() != 3 {
		t.Errorf("End = %d, %d left", e, r.Left())
	}
}

func TestP32End(t *testing.T) {
	for _, b := range [][]byte{nil, {}} {
		r := codec.NewReader(b)
		if e := r.End(); e != api.OK || r.Left() != 0 {
			t.Errorf("End of no bytes: %d, %d left", e, r.Left())
		}
	}
	r := codec.NewReader([]byte{128, 128})
	for left := 2; left > 0; left-- {
		if e := r.End(); e != api.ErrMore || r.Left() != left {
			t.Errorf("End with %d bytes left: %d, Left() = %d", left, e, r.Left())
		}
		r.Int()
	}
	for range 2 {
		if e := r.End(); e != api.OK || r.Left() != 0 {
			t.Errorf("End at the end: %d, %d left", e, r.Left())
		}
	}
}

func TestP32NotMade(t *testing.T) {
	for _, r := range []*codec.Reader{nil, new(codec.Reader)} {
		for range 2 {
			n, a := r.Int()
			b, c := r.Bytes()
			s, d := r.Text()
			yes, f := r.Flag()
			for i, e := range []api.Errno{a, c, d, f, r.End()} {
				if e != api.ErrMade {
					t.Errorf("call %d of a reader that was not made: %d", i, e)
				}
			}
			if n != 0 || b != nil || s != "" || yes || r.Left() != 0 {
				t.Errorf("a reader that was not made has %d, %v, %q, %v, %d left", n, b, s, yes, r.Left())
			}
		}
	}
}

func TestP32IsNotBounded(t *testing.T) {
	s := make([]byte, api.MaxBytes)
	r := codec.NewReader(append(wantBytes(s), 133))
	if b, e := r.Bytes(); !bytes.Equal(b, s) || e != api.OK || r.Left() != 1 {
		t.Errorf("Bytes has %d bytes, %d, %d left", len(b), e, r.Left())
	}
	if n, e := r.Int(); n != 5 || e != api.OK || r.End() != api.OK {
		t.Errorf("Int behind them = %d, %d", n, e)
	}
}

func TestP32SharesNoMemory(t *testing.T) {
	from := []byte{97, 98, 0, 0, 99, 0, 0, 133}
	given := slices.Clone(from)
	r := codec.NewReader(given)
	clear(given)
	first, _ := r.Bytes()
	if string(first) != "ab" {
		t.Errorf("Bytes = %q", first)
	}
	clear(first)
	first = append(first, 1, 2, 3, 4)
	if s, e := r.Text(); s != "c" || e != api.OK {
		t.Errorf("Text = %q, %d", s, e)
	}
	if n, e := r.Int(); n != 5 || e != api.OK {
		t.Errorf("Int = %d, %d", n, e)
	}
	again := codec.NewReader(from)
	again.Bytes()
	if !bytes.Equal(from, []byte{97, 98, 0, 0, 99, 0, 0, 133}) || !bytes.Equal(first, []byte{0, 0, 1, 2, 3, 4}) {
		t.Errorf("the bytes read have changed: %v, %v", from, first)
	}
}

// written is something that a writer was given, by kind.
type written struct {
	kind int
	n    int64
	s    []byte
}

// write writes x and returns the writer's error.
func (x written) write(w *codec.Writer) api.Errno {
	switch x.kind {
	case 0:
		return w.Int(x.n)
	case 1:
		return w.Bytes(x.s)
	case 2:
		return w.Text(string(x.s))
	}
	return w.Flag(x.n == 1)
}

// read reads something of a kind, and returns the reader's error.
func read(r *codec.Reader, kind int) (written, api.Errno) {
	x := written{kind: kind}
	var e api.Errno
	switch kind {
	case 0:
		x.n, e = r.Int()
	case 1:
		x.s, e = r.Bytes()
	case 2:
		var s string
		s, e = r.Text()
		x.s = []byte(s)
	default:
		var yes bool
		yes, e = r.Flag()
		if yes {
			x.n = 1
		}
	}
	return x, e
}

func TestP34WhatIsWrittenIsRead(t *testing.T) {
	random := rand.New(rand.NewSource(34))
	numbers, strings := edges(), byteStrings(4)
	for range 2000 {
		w := codec.NewWriter()
		l := make([]written, random.Intn(12))
		for i := range l {
			l[i] = written{kind: random.Intn(4)}
			switch l[i].kind {
			case 0:
				l[i].n = numbers[random.Intn(len(numbers))]
			case 3:
				l[i].n = int64(random.Intn(2))
			default:
				l[i].s = strings[random.Intn(len(strings))]
			}
			if e := l[i].write(w); e != api.OK {
				t.Fatalf("%v is not written: %d", l[i], e)
			}
		}
		r := codec.NewReader(w.Out())
		for _, x := range l {
			got, e := read(r, x.kind)
			if e != api.OK || got.n != x.n || !bytes.Equal(got.s, x.s) {
				t.Fatalf("of %v, %v was read as %v, %d", l, x, got, e)
			}
		}
		if e := r.End(); e != api.OK {
			t.Fatalf("End behind %v: %d", l, e)
		}
	}
}

func TestP34EveryInteger(t *testing.T) {
	check := func(n int64) {
		r := codec.NewReader(codec.Row(n))
		if got, e := r.Int(); got != n || e != api.OK || r.End() != api.OK {
			t.Fatalf("%d was read as %d, %d", n, got, e)
		}
	}
	for n := int64(-70000); n <= 70000; n++ {
		check(n)
	}
	for _, n := range edges() {
		check(n)
	}
	random := rand.New(rand.NewSource(340))
	for range 50000 {
		n := int64(random.Uint64()) >> random.Intn(64)
		check(n)
		check(math.MaxInt64 - n&0xFFFF)
	}
}

func TestP34WhatIsReadIsWritten(t *testing.T) {
	random := rand.New(rand.NewSource(341))
	for range 20000 {
		b := anyBytes(random)
		r, w := codec.NewReader(b), codec.NewWriter()
		for range 20 {
			x, e := read(r, random.Intn(4))
			if e == api.OK {
				x.write(w)
			}
			if consumed := b[:len(b)-r.Left()]; !bytes.Equal(w.Out(), consumed) {
				t.Fatalf("from %v, %v were read; written again they are %v", b, consumed, w.Out())
			}
		}
	}
}
