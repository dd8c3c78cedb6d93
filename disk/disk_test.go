package disk_test

import (
	"bytes"
	"math"
	"slices"
	"testing"

	"colonnade/api"
	"colonnade/disk"
)

// files are both files.
var files = []int{api.Main, api.Log}

// noFiles are numbers that are not those of a file.
var noFiles = []int{-1, 2, 3, math.MinInt, math.MaxInt}

// some is n bytes, none of them zero.
func some(n int) []byte {
	b := make([]byte, n)
	for i := range b {
		b[i] = byte(1 + i%255)
	}
	return b
}

// content is all of a file, by Read and by Size.
func content(t *testing.T, d *disk.Disk, f int) []byte {
	t.Helper()
	b, e := d.Read(f, 0, math.MaxInt)
	if e != api.OK {
		t.Fatalf("Read of all of %d: %d", f, e)
	}
	if n, e := d.Size(f); n != len(b) || e != api.OK {
		t.Fatalf("Size(%d) = %d, %d; %d bytes were read", f, n, e, len(b))
	}
	return b
}

// expect tells if a file does not contain what is wanted.
func expect(t *testing.T, d *disk.Disk, f int, want []byte) {
	t.Helper()
	if got := content(t, d, f); !bytes.Equal(got, want) {
		t.Fatalf("file %d has %d bytes, %.40v; want %d, %.40v", f, len(got), got, len(want), want)
	}
}

// expectState tells if the number of pieces or of calls is not that wanted.
func expectState(t *testing.T, d *disk.Disk, pieces int, calls int64) {
	t.Helper()
	if d.Pending() != pieces || d.Calls() != calls {
		t.Fatalf("Pending() = %d, Calls() = %d; want %d, %d", d.Pending(), d.Calls(), pieces, calls)
	}
}

// must tells if a call that is to succeed did not.
func must(t *testing.T, e api.Errno) {
	t.Helper()
	if e != api.OK {
		t.Fatalf("error %d", e)
	}
}

// expectErr tells if a call did not answer the error wanted.
func expectErr(t *testing.T, name string, e, want api.Errno) {
	t.Helper()
	if e != want {
		t.Errorf("%s: %d; want %d", name, e, want)
	}
}

// written is a disk with these bytes in a file, made durable.
func written(t *testing.T, f int, b []byte) *disk.Disk {
	t.Helper()
	d := disk.New()
	must(t, d.Write(f, 0, b...))
	must(t, d.Sync(f))
	return d
}

func TestP41New(t *testing.T) {
	d := disk.New()
	for _, f := range files {
		expect(t, d, f, nil)
	}
	expectState(t, d, 0, 0)
	if d.Down() {
		t.Error("a new disk is without power")
	}
	for range 300 {
		must(t, d.Write(api.Log, 0, 1))
		must(t, d.Truncate(api.Log, 0))
		must(t, d.Sync(api.Main))
	}
	expectState(t, d, 600, 900)
	expect(t, disk.New(), api.Log, nil)
}

func TestP41WriteInPieces(t *testing.T) {
	for _, x := range []struct{ at, n, pieces int }{
		{0, 1, 1}, {0, 511, 1}, {0, 512, 1}, {0, 513, 2}, {0, 1024, 2}, {0, 1025, 3},
		{511, 1, 1}, {511, 2, 2}, {510, 4, 2}, {1, 511, 1}, {1, 512, 2}, {1, 1024, 3}, {512, 512, 1}, {512, 1, 1}, {513, 511, 1}, {513, 512, 2},
		{100, 2000, 5}, {5*512 - 1, 514, 3}, {5 * 512, 512 * 7, 7},
		{api.MaxFile - 1, 1, 1}, {api.MaxFile - 512, 512, 1}, {api.MaxFile - 513, 513, 2}, {0, api.MaxFile, 8192}, {1, api.MaxFile - 1, 8192},
	} {
		for _, f := range files {
			d := disk.New()
			b := some(x.n)
			expectErr(t, "Write", d.Write(f, x.at, b...), api.OK)
			expectState(t, d, x.pieces, 1)
			expect(t, d, f, append(make([]byte, x.at), b...))
			expect(t, d, 1-f, nil)
		}
	}
}

func TestP41WriteOver(t *testing.T) {
	for _, f := range files {
		d := disk.New()
		must(t, d.Write(f, 0, some(1500)...))
		must(t, d.Write(f, 700, 0, 0, 0))
		want := some(1500)
		clear(want[700:703])
		expect(t, d, f, want)
		must(t, d.Write(f, 1498, 7, 8, 9, 10))
		want = append(want[:1498], 7, 8, 9, 10)
		expect(t, d, f, want)
		must(t, d.Write(f, 1600, 5))
		want = append(append(want, make([]byte, 98)...), 5)
		expect(t, d, f, want)
		expectState(t, d, 6, 4)
	}
}

func TestP41GapIsZeroWhereThereWasSomething(t *testing.T) {
	d := disk.New()
	must(t, d.Write(api.Main, 0, some(2000)...))
	must(t, d.Truncate(api.Main, 2))
	must(t, d.Write(api.Main, 1000, 5))
	want := append(append([]byte{1, 2}, make([]byte, 998)...), 5)
	expect(t, d, api.Main, want)
	must(t, d.Sync(api.Main))
	must(t, d.Crash())
	must(t, d.Restart())
	expect(t, d, api.Main, want)
	must(t, d.Truncate(api.Main, 1))
	must(t, d.Write(api.Main, 3, 9))
	must(t, d.Crash(true, true))
	must(t, d.Restart())
	expect(t, d, api.Main, []byte{1, 0, 0, 9})
}

func TestP41WriteErrors(t *testing.T) {
	d := written(t, api.Log, some(600))
	must(t, d.Write(api.Log, 0, 9))
	must(t, d.SetFuse(1))
	many := make([]byte, api.MaxFile+1)
	for _, x := range []struct {
		at, n int
		e     api.Errno
	}{
		{-1, 0, api.ErrArg}, {-1, 1, api.ErrArg}, {math.MinInt, 0, api.ErrArg}, {math.MinInt, 5, api.ErrArg}, {-1, api.MaxFile + 1, api.ErrArg},
		{api.MaxFile, 1, api.ErrFull}, {api.MaxFile - 1, 2, api.ErrFull}, {0, api.MaxFile + 1, api.ErrFull}, {1, api.MaxFile, api.ErrFull},
		{math.MaxInt, 1, api.ErrFull}, {math.MaxInt, 2, api.ErrFull}, {math.MaxInt, api.MaxFile + 1, api.ErrFull}, {math.MaxInt - api.MaxFile, api.MaxFile, api.ErrFull},
	} {
		for _, f := range files {
			if e := d.Write(f, x.at, many[:x.n]...); e != x.e {
				t.Errorf("Write of %d bytes at %d: %d; want %d", x.n, x.at, e, x.e)
			}
		}
	}
	for _, f := range noFiles {
		for _, at := range []int{-1, 0, api.MaxFile} {
			expectErr(t, "Write without a file", d.Write(f, at, 1), api.ErrArg)
			expectErr(t, "Write of nothing without a file", d.Write(f, at), api.ErrArg)
		}
	}
	expectState(t, d, 1, 3)
	expect(t, d, api.Log, append([]byte{9}, some(600)[1:]...))
	expect(t, d, api.Main, nil)
}

func TestP41WriteNothing(t *testing.T) {
	d := written(t, api.Main, []byte{1, 2})
	for i, at := range []int{0, 1, 2, 3, 512, api.MaxFile, api.MaxFile + 1, math.MaxInt} {
		expectErr(t, "Write of nothing", d.Write(api.Main, at), api.OK)
		expectErr(t, "Write of an empty list", d.Write(api.Log, at, []byte{}...), api.OK)
		expectState(t, d, 0, int64(2*i+4))
	}
	expect(t, d, api.Main, []byte{1, 2})
	expect(t, d, api.Log, nil)
	must(t, d.SetFuse(1))
	expectErr(t, "Write of nothing with a fuse", d.Write(api.Main, 0), api.ErrDown)
	if !d.Down() || d.Calls() != 19 {
		t.Errorf("Write of nothing does not count: %v, %d", d.Down(), d.Calls())
	}
}

func TestP41Read(t *testing.T) {
	b := some(1300)
	d := written(t, api.Log, b)
	for _, x := range []struct{ at, n, from, to int }{
		{0, 0, 0, 0}, {0, 1, 0, 1}, {0, 1300, 0, 1300}, {0, 1301, 0, 1300}, {0, math.MaxInt, 0, 1300}, {1, math.MaxInt, 1, 1300},
		{511, 2, 511, 513}, {500, 600, 500, 1100}, {1299, 1, 1299, 1300}, {1299, 2, 1299, 1300}, {1300, 0, 0, 0}, {1300, 1, 0, 0}, {1301, 1, 0, 0},
		{api.MaxFile, 1, 0, 0}, {math.MaxInt, 0, 0, 0}, {math.MaxInt, 1, 0, 0}, {math.MaxInt, math.MaxInt, 0, 0},
	} {
		got, e := d.Read(api.Log, x.at, x.n)
		if !bytes.Equal(got, b[x.from:x.to]) || e != api.OK {
			t.Errorf("Read(1, %d, %d) has %d bytes, %d; want %d", x.at, x.n, len(got), e, x.to-x.from)
		}
		if got, e := d.Read(api.Main, x.at, x.n); len(got) != 0 || e != api.OK {
			t.Errorf("Read(0, %d, %d) of an empty file has %d bytes, %d", x.at, x.n, len(got), e)
		}
	}
	for _, x := range []struct{ f, at, n int }{
		{0, -1, 0}, {1, 0, -1}, {1, -1, -1}, {0, math.MinInt, math.MaxInt}, {1, math.MaxInt, math.MinInt}, {2, 0, 0}, {-1, 0, 5}, {math.MaxInt, -1, -1},
	} {
		if got, e := d.Read(x.f, x.at, x.n); got != nil || e != api.ErrArg {
			t.Errorf("Read(%d, %d, %d) = %v, %d", x.f, x.at, x.n, got, e)
		}
	}
	expectState(t, d, 0, 2)
}

func TestP41Size(t *testing.T) {
	d := disk.New()
	must(t, d.Write(api.Main, 700, 1, 2))
	must(t, d.Write(api.Log, 0, 1))
	for f, want := range []int{702, 1} {
		if n, e := d.Size(f); n != want || e != api.OK {
			t.Errorf("Size(%d) = %d, %d", f, n, e)
		}
	}
	for _, f := range noFiles {
		if n, e := d.Size(f); n != 0 || e != api.ErrArg {
			t.Errorf("Size(%d) = %d, %d", f, n, e)
		}
	}
}

func TestP41Truncate(t *testing.T) {
	for _, f := range files {
		d := written(t, f, some(1300))
		for i, size := range []int{1300, 1299, 1024, 1023, 512, 512, 1, 0, 0} {
			expectErr(t, "Truncate", d.Truncate(f, size), api.OK)
			expectState(t, d, i+1, int64(i)+3)
			expect(t, d, f, some(1300)[:size])
			expect(t, d, 1-f, nil)
		}
	}
}

func TestP41TruncateErrors(t *testing.T) {
	d := written(t, api.Main, some(600))
	must(t, d.Write(api.Log, 0, 1, 2))
	for _, x := range []struct{ f, size int }{
		{0, -1}, {0, 601}, {1, 3}, {1, 600}, {1, -1}, {0, math.MinInt}, {0, math.MaxInt}, {0, api.MaxFile}, {2, 0}, {-1, 0}, {math.MaxInt, 1}, {math.MinInt, -1},
	} {
		if e := d.Truncate(x.f, x.size); e != api.ErrArg {
			t.Errorf("Truncate(%d, %d): %d", x.f, x.size, e)
		}
	}
	expectState(t, d, 1, 3)
	expect(t, d, api.Main, some(600))
	expect(t, d, api.Log, []byte{1, 2})
}

func TestP41Sync(t *testing.T) {
	d := disk.New()
	must(t, d.Write(api.Main, 0, some(1000)...))
	must(t, d.Write(api.Log, 0, 1, 2, 3))
	must(t, d.Truncate(api.Main, 700))
	must(t, d.Truncate(api.Log, 2))
	expectState(t, d, 5, 4)
	for _, f := range noFiles {
		expectErr(t, "Sync without a file", d.Sync(f), api.ErrArg)
	}
	expectState(t, d, 5, 4)
	must(t, d.Sync(api.Main))
	expectState(t, d, 2, 5)
	must(t, d.Sync(api.Main))
	expectState(t, d, 2, 6)
	expect(t, d, api.Main, some(700))
	expect(t, d, api.Log, []byte{1, 2})
	kept := d.Clone()
	must(t, kept.Crash(true))
	must(t, kept.Restart())
	expect(t, kept, api.Main, some(700))
	expect(t, kept, api.Log, []byte{1, 2, 3})
	must(t, d.Sync(api.Log))
	expectState(t, d, 0, 7)
	must(t, d.Crash())
	must(t, d.Restart())
	expect(t, d, api.Main, some(700))
	expect(t, d, api.Log, []byte{1, 2})
}

func TestP41DownIsNamedFirst(t *testing.T) {
	d := written(t, api.Log, []byte{5})
	must(t, d.Crash())
	for _, f := range append([]int{api.Main, api.Log}, noFiles...) {
		for _, n := range []int{-1, 0, 1, math.MaxInt, math.MinInt} {
			if size, e := d.Size(f); size != 0 || e != api.ErrDown {
				t.Errorf("Size(%d) without power = %d, %d", f, size, e)
			}
			if b, e := d.Read(f, n, 1); b != nil || e != api.ErrDown {
				t.Errorf("Read(%d, %d, 1) without power = %v, %d", f, n, b, e)
			}
			if b, e := d.Read(f, 0, n); b != nil || e != api.ErrDown {
				t.Errorf("Read(%d, 0, %d) without power = %v, %d", f, n, b, e)
			}
			expectErr(t, "Write without power", d.Write(f, n, 1), api.ErrDown)
			expectErr(t, "Write of nothing without power", d.Write(f, n), api.ErrDown)
			expectErr(t, "Truncate without power", d.Truncate(f, n), api.ErrDown)
		}
		expectErr(t, "Sync without power", d.Sync(f), api.ErrDown)
	}
	expectState(t, d, 0, 2)
	must(t, d.Restart())
	expect(t, d, api.Log, []byte{5})
	expect(t, d, api.Main, nil)
}

func TestP41SharesNoMemory(t *testing.T) {
	d := disk.New()
	b := some(700)
	must(t, d.Write(api.Main, 0, b...))
	if !slices.Equal(b, some(700)) {
		t.Fatal("Write has changed its arguments")
	}
	clear(b)
	expect(t, d, api.Main, some(700))
	clear(content(t, d, api.Main))
	part, _ := d.Read(api.Main, 10, 5)
	part = append(part, 0, 0, 0)
	clear(part)
	expect(t, d, api.Main, some(700))
	first := content(t, d, api.Main)
	must(t, d.Write(api.Main, 0, 0, 0))
	if !slices.Equal(first, some(700)) {
		t.Error("Write has changed what was read")
	}
	must(t, d.Crash(true, true))
	must(t, d.Restart())
	expect(t, d, api.Main, some(700))
}
