package disk_test

import (
	"math"
	"slices"
	"testing"

	"colonnade/api"
	"colonnade/disk"
)

// crashed lets the power of a copy of the disk fail and come back.
func crashed(t *testing.T, d *disk.Disk, keep ...bool) *disk.Disk {
	t.Helper()
	c := d.Clone()
	must(t, c.Crash(keep...))
	if !c.Down() || c.Pending() != 0 {
		t.Fatalf("after Crash: Down() = %v, Pending() = %d", c.Down(), c.Pending())
	}
	must(t, c.Restart())
	return c
}

func TestP42CrashNamed(t *testing.T) {
	d := disk.New()
	must(t, d.Write(0, 510, 1, 2, 3, 4))
	expectState(t, d, 2, 1)
	expect(t, crashed(t, d, false, true), 0, append(make([]byte, 512), 3, 4))
	expect(t, crashed(t, d, true), 0, append(make([]byte, 510), 1, 2))
	expect(t, crashed(t, d, true, true), 0, append(make([]byte, 510), 1, 2, 3, 4))
	expect(t, crashed(t, d), 0, nil)
	expect(t, crashed(t, d, false, false, true, true), 0, nil)
	must(t, d.Write(1, 0, 5))
	must(t, d.Sync(1))
	must(t, d.Truncate(1, 0))
	expect(t, crashed(t, d), 1, []byte{5})
	expect(t, crashed(t, d, true, true), 1, []byte{5})
	expect(t, crashed(t, d, false, false, true), 1, nil)
	expect(t, d, 1, nil)
}

// TestP42CrashOfBothFiles has pieces of both files and of both kinds, and lets each set of them remain.
func TestP42CrashOfBothFiles(t *testing.T) {
	d := written(t, api.Log, []byte{1, 2, 3, 4, 5})
	must(t, d.Write(api.Main, 1, 6, 7))
	must(t, d.Truncate(api.Log, 2))
	must(t, d.Write(api.Log, 4, 8))
	must(t, d.Truncate(api.Main, 2))
	must(t, d.Write(api.Main, 3, 9))
	expectState(t, d, 5, 7)
	mains := [][]byte{nil, {0, 6, 7}, nil, {0, 6}, {0, 0, 0, 9}, {0, 6, 7, 9}, {0, 0, 0, 9}, {0, 6, 0, 9}}
	logs := [][]byte{{1, 2, 3, 4, 5}, {1, 2}, {1, 2, 3, 4, 8}, {1, 2, 0, 0, 8}}
	for set := range 32 {
		keep := make([]bool, 5)
		for i := range keep {
			keep[i] = set>>i&1 == 1
		}
		main := mains[set&1|set>>2&6]
		log := logs[set>>1&3]
		for _, keep := range [][]bool{keep, append(slices.Clone(keep), true, false, true)} {
			c := crashed(t, d, keep...)
			expect(t, c, api.Main, main)
			expect(t, c, api.Log, log)
		}
	}
}

func TestP42CrashIsDurable(t *testing.T) {
	d := disk.New()
	must(t, d.Write(api.Main, 0, some(1030)...))
	must(t, d.Write(api.Log, 0, 1))
	must(t, d.Crash(true, false, true, true))
	want := some(1030)
	clear(want[512:1024])
	for i := range 3 {
		must(t, d.Restart())
		expect(t, d, api.Main, want)
		expect(t, d, api.Log, []byte{1})
		expectState(t, d, 0, int64(2+2*i))
		must(t, d.Write(api.Main, 0, 99))
		must(t, d.Truncate(api.Log, 0))
		must(t, d.Crash())
	}
}

func TestP42TruncationOfAShorterFile(t *testing.T) {
	d := written(t, api.Main, []byte{1, 2, 3})
	must(t, d.Write(api.Main, 3, 4, 5, 6))
	must(t, d.Truncate(api.Main, 5))
	must(t, d.Truncate(api.Main, 4))
	expect(t, crashed(t, d, false, true, true), api.Main, []byte{1, 2, 3})
	expect(t, crashed(t, d, false, true), api.Main, []byte{1, 2, 3})
	expect(t, crashed(t, d, true, true), api.Main, []byte{1, 2, 3, 4, 5})
	expect(t, crashed(t, d, true, false, true), api.Main, []byte{1, 2, 3, 4})
	even := written(t, api.Log, []byte{1, 2, 3})
	must(t, even.Truncate(api.Log, 3))
	expect(t, crashed(t, even, true), api.Log, []byte{1, 2, 3})
}

func TestP42CrashErrors(t *testing.T) {
	d := written(t, api.Main, []byte{1})
	must(t, d.Write(api.Main, 0, 2))
	must(t, d.Crash())
	must(t, d.SetFuse(2))
	expectErr(t, "Crash without power", d.Crash(), api.ErrDown)
	expectErr(t, "Crash without power", d.Crash(true, true), api.ErrDown)
	must(t, d.Restart())
	expect(t, d, api.Main, []byte{1})
	must(t, d.Sync(api.Main))
	expectErr(t, "the fuse that was set before the rejected Crash", d.Sync(api.Main), api.ErrDown)
}

func TestP42CrashRemovesTheFuse(t *testing.T) {
	d := disk.New()
	must(t, d.SetFuse(1, true))
	must(t, d.Crash())
	must(t, d.Restart())
	for range 3 {
		must(t, d.Write(api.Main, 0, 1))
	}
	must(t, d.SetFuse(2, true))
	must(t, d.Sync(api.Main))
	expectErr(t, "Sync with a fuse", d.Sync(api.Main), api.ErrDown)
	must(t, d.Restart())
	for range 3 {
		must(t, d.Sync(api.Main))
	}
	expectState(t, d, 0, 8)
}

func TestP42CrashKeepsItsArguments(t *testing.T) {
	d := disk.New()
	must(t, d.Write(api.Main, 0, 1))
	keep := []bool{true, false}
	must(t, d.Crash(keep...))
	if !slices.Equal(keep, []bool{true, false}) {
		t.Error("Crash has changed its arguments")
	}
}

func TestP42FuseAtAWrite(t *testing.T) {
	for _, x := range []struct {
		keep      []bool
		main, log []byte
	}{
		{nil, nil, []byte{7, 8}}, {[]bool{true}, append(make([]byte, 511), 1), []byte{7, 8}}, {[]bool{false, true}, append(make([]byte, 512), 2), []byte{7, 8}},
		{[]bool{true, true, true}, append(make([]byte, 511), 1, 2), []byte{7, 9}}, {[]bool{false, false, true, true}, nil, []byte{7, 9}},
	} {
		d := written(t, api.Log, []byte{7, 8})
		must(t, d.SetFuse(2, x.keep...))
		must(t, d.Write(api.Main, 511, 1, 2))
		expectErr(t, "Write with a fuse", d.Write(api.Log, 1, 9), api.ErrDown)
		if !d.Down() {
			t.Fatal("the power has not failed")
		}
		expectState(t, d, 0, 4)
		must(t, d.Restart())
		expect(t, d, api.Main, x.main)
		expect(t, d, api.Log, x.log)
	}
}

func TestP42FuseAtATruncate(t *testing.T) {
	for _, kept := range []bool{true, false} {
		d := written(t, api.Main, []byte{1, 2, 3})
		must(t, d.SetFuse(1, kept))
		expectErr(t, "Truncate with a fuse", d.Truncate(api.Main, 1), api.ErrDown)
		expectState(t, d, 0, 3)
		if !d.Down() {
			t.Fatal("the power has not failed")
		}
		must(t, d.Restart())
		if kept {
			expect(t, d, api.Main, []byte{1})
		} else {
			expect(t, d, api.Main, []byte{1, 2, 3})
		}
	}
}

func TestP42FuseAtASync(t *testing.T) {
	for _, kept := range []bool{true, false} {
		d := disk.New()
		must(t, d.SetFuse(3, false, kept))
		must(t, d.Write(api.Log, 0, 1, 2))
		must(t, d.Write(api.Log, 1, 3))
		expectErr(t, "Sync with a fuse", d.Sync(api.Log), api.ErrDown)
		expectState(t, d, 0, 3)
		if !d.Down() {
			t.Fatal("the power has not failed")
		}
		must(t, d.Restart())
		if kept {
			expect(t, d, api.Log, []byte{0, 3})
		} else {
			expect(t, d, api.Log, nil)
		}
	}
}

func TestP42FuseCountsCalls(t *testing.T) {
	calls := []func(d *disk.Disk) api.Errno{
		func(d *disk.Disk) api.Errno { return d.Write(api.Main, 0, some(2000)...) },
		func(d *disk.Disk) api.Errno { return d.Sync(api.Main) },
		func(d *disk.Disk) api.Errno { return d.Write(api.Log, 5) },
		func(d *disk.Disk) api.Errno { return d.Truncate(api.Main, 0) },
		func(d *disk.Disk) api.Errno { return d.Sync(api.Log) },
		func(d *disk.Disk) api.Errno { return d.Truncate(api.Log, 0) },
	}
	for n := 1; n <= 20; n++ {
		d := disk.New()
		must(t, d.SetFuse(n))
		for i := 1; i <= n; i++ {
			want := api.OK
			if i == n {
				want = api.ErrDown
			}
			if e := calls[(i-1)%len(calls)](d); e != want || d.Down() != (i == n) || d.Calls() != int64(i) {
				t.Fatalf("fuse %d, call %d: %d, Down() = %v, Calls() = %d", n, i, e, d.Down(), d.Calls())
			}
			expectWithoutFuse(t, d)
		}
		must(t, d.Restart())
		for range 25 {
			must(t, d.Sync(api.Log))
		}
	}
}

// expectWithoutFuse makes all the calls that a fuse does not count, and some that are rejected.
func expectWithoutFuse(t *testing.T, d *disk.Disk) {
	t.Helper()
	down, calls, pieces := d.Down(), d.Calls(), d.Pending()
	d.Size(api.Main)
	d.Read(api.Log, 0, 9)
	d.Clone().Sync(api.Main)
	disk.Same(d, d)
	d.SetFuse(-1, true, true)
	d.Write(api.Main, -1, 1)
	d.Write(api.Main, -1)
	d.Write(api.Log, api.MaxFile, 1)
	d.Write(2, 0, 1)
	d.Truncate(api.Main, api.MaxFile)
	d.Truncate(api.Log, -1)
	d.Truncate(-1, 0)
	d.Sync(2)
	if d.Down() != down || d.Calls() != calls || d.Pending() != pieces {
		t.Fatalf("what does not count: Down() = %v, Calls() = %d, Pending() = %d", d.Down(), d.Calls(), d.Pending())
	}
}

func TestP42SetFuseErrors(t *testing.T) {
	d := disk.New()
	must(t, d.SetFuse(2, true))
	for _, n := range []int{-1, -2, math.MinInt} {
		expectErr(t, "SetFuse", d.SetFuse(n), api.ErrArg)
	}
	must(t, d.Write(api.Main, 0, 1))
	expectErr(t, "the fuse that was set before the rejected ones", d.Sync(api.Main), api.ErrDown)
	expectErr(t, "SetFuse without power", d.SetFuse(-1), api.ErrArg)
	must(t, d.Restart())
	expect(t, d, api.Main, []byte{1})
}

func TestP42FuseIsRemovedOrReplaced(t *testing.T) {
	d := disk.New()
	must(t, d.SetFuse(1, true))
	must(t, d.SetFuse(0, true))
	must(t, d.Write(api.Main, 0, 1))
	must(t, d.SetFuse(0))
	must(t, d.Write(api.Main, 1, 2))
	must(t, d.SetFuse(1))
	must(t, d.SetFuse(3, false, true))
	must(t, d.Write(api.Main, 2, 3))
	must(t, d.SetFuse(2, true))
	must(t, d.Write(api.Main, 3, 4))
	expectErr(t, "the last fuse", d.Write(api.Main, 4, 5), api.ErrDown)
	must(t, d.Restart())
	expect(t, d, api.Main, []byte{1})
	must(t, d.SetFuse(math.MaxInt))
	for range 50 {
		must(t, d.Sync(api.Main))
	}
}

func TestP42FuseWhileThePowerIsOff(t *testing.T) {
	d := written(t, api.Main, []byte{1})
	must(t, d.Crash())
	must(t, d.SetFuse(2, true))
	for range 3 {
		expectErr(t, "Write without power", d.Write(api.Main, 0, 2), api.ErrDown)
		expectErr(t, "Sync without power", d.Sync(api.Main), api.ErrDown)
	}
	must(t, d.Restart())
	must(t, d.Restart())
	must(t, d.Write(api.Main, 0, 3))
	expectErr(t, "Sync with a fuse", d.Sync(api.Main), api.ErrDown)
	must(t, d.SetFuse(1))
	must(t, d.SetFuse(0))
	must(t, d.Restart())
	must(t, d.Write(api.Main, 1, 4))
	expect(t, d, api.Main, []byte{3, 4})
	expectState(t, d, 1, 5)
}

func TestP42FuseCopiesItsScript(t *testing.T) {
	d := disk.New()
	keep := []bool{true, false}
	must(t, d.SetFuse(2, keep...))
	keep[0], keep[1] = false, true
	must(t, d.Write(api.Main, 0, 1))
	expectErr(t, "Write with a fuse", d.Write(api.Main, 1, 2), api.ErrDown)
	must(t, d.Restart())
	expect(t, d, api.Main, []byte{1})
	if keep[0] || !keep[1] {
		t.Error("SetFuse has changed its arguments")
	}
}

func TestP42RestartWithPower(t *testing.T) {
	d := disk.New()
	must(t, d.Write(api.Main, 0, 1))
	must(t, d.SetFuse(1, true))
	must(t, d.Restart())
	if d.Down() {
		t.Error("Restart has taken the power away")
	}
	expectState(t, d, 1, 1)
	expect(t, d, api.Main, []byte{1})
	expectErr(t, "the fuse after Restart", d.Sync(api.Main), api.ErrDown)
	must(t, d.Restart())
	expect(t, d, api.Main, []byte{1})
}

func TestP43NotMade(t *testing.T) {
	for _, d := range []*disk.Disk{nil, new(disk.Disk)} {
		for range 2 {
			for _, n := range []int{0, 1, -1, 2, math.MaxInt, math.MinInt} {
				size, a := d.Size(n)
				b, c := d.Read(n, n, n)
				if size != 0 || b != nil {
					t.Errorf("Size(%d) = %d, Read = %v of a disk that was not made", n, size, b)
				}
				for i, e := range []api.Errno{a, c, d.Write(n, n, 1), d.Write(n, n), d.Write(0, api.MaxFile, 1), d.Truncate(n, n), d.Sync(n), d.SetFuse(n), d.SetFuse(n, true), d.Crash(), d.Crash(true), d.Restart()} {
					if e != api.ErrMade {
						t.Errorf("call %d with %d of a disk that was not made: %d", i, n, e)
					}
				}
			}
			if d.Pending() != 0 || d.Down() || d.Calls() != 0 || d.Clone() != nil {
				t.Errorf("a disk that was not made: %d, %v, %d, %v", d.Pending(), d.Down(), d.Calls(), d.Clone())
			}
		}
	}
}

func TestP43Same(t *testing.T) {
	made, none := disk.New(), new(disk.Disk)
	for i, x := range []struct {
		a, b *disk.Disk
		want bool
	}{
		{made, made, true}, {made, disk.New(), true}, {made, none, false}, {none, made, false}, {none, none, false}, {none, new(disk.Disk), false},
		{nil, made, false}, {made, nil, false}, {nil, nil, false}, {nil, none, false}, {none, nil, false},
		{written(t, 0, []byte{1}), written(t, 0, []byte{1}), true}, {written(t, 0, []byte{1}), written(t, 1, []byte{1}), false},
		{written(t, 0, []byte{1}), written(t, 0, []byte{2}), false}, {written(t, 0, []byte{1}), written(t, 0, []byte{1, 0}), false}, {written(t, 1, []byte{1}), written(t, 1, []byte{2}), false},
		{written(t, 1, []byte{1, 0}), written(t, 1, []byte{1}), false}, {made, written(t, 1, []byte{0}), false}, {written(t, 0, []byte{0}), made, false},
	} {
		if got := disk.Same(x.a, x.b); got != x.want {
			t.Errorf("Same of pair %d = %v", i, got)
		}
	}
}

func TestP43SameIsOfTheContentAlone(t *testing.T) {
	a, b := written(t, api.Main, []byte{1, 2}), disk.New()
	must(t, b.Write(api.Main, 0, 5, 2))
	must(t, b.Write(api.Main, 0, 1))
	must(t, b.SetFuse(1))
	for _, same := range []bool{disk.Same(a, b), disk.Same(b, a)} {
		if !same {
			t.Error("Same hangs on pieces, calls or the fuse")
		}
	}
	must(t, a.Crash())
	for _, same := range []bool{disk.Same(a, b), disk.Same(b, a), disk.Same(a, a)} {
		if !same {
			t.Error("Same hangs on the power")
		}
	}
	must(t, b.Crash(true))
	if disk.Same(a, b) {
		t.Error("5 2 is the same as 1 2")
	}
	expectState(t, a, 0, 2)
}

func TestP43Clone(t *testing.T) {
	d := written(t, api.Main, some(600))
	must(t, d.Write(api.Main, 1, 0))
	must(t, d.Write(api.Log, 0, 4, 5))
	must(t, d.SetFuse(2, false, true, true))
	c := d.Clone()
	for _, x := range [][2]*disk.Disk{{d.Clone(), d.Clone()}, {c, c.Clone()}} {
		a, b := x[0], x[1]
		if !disk.Same(a, b) || a.Pending() != 2 || a.Calls() != 4 || a.Down() {
			t.Fatalf("a copy: Pending() = %d, Calls() = %d, Down() = %v", a.Pending(), a.Calls(), a.Down())
		}
		must(t, a.Write(api.Log, 1, 6))
		expectErr(t, "Truncate with a fuse", a.Truncate(api.Main, 0), api.ErrDown)
		if b.Down() || b.Calls() != 4 || b.Pending() != 2 || disk.Same(a, b) {
			t.Fatalf("the other copy: Pending() = %d, Calls() = %d, Down() = %v", b.Pending(), b.Calls(), b.Down())
		}
		down := a.Clone()
		if !down.Down() || down.Calls() != 6 || !disk.Same(a, down) {
			t.Errorf("a copy without power: Calls() = %d, Down() = %v", down.Calls(), down.Down())
		}
		must(t, down.Restart())
		if !a.Down() {
			t.Error("Restart of a copy has turned on the power of the other")
		}
		must(t, a.Restart())
		expect(t, a, api.Main, some(600))
		expect(t, a, api.Log, []byte{4, 6})
		must(t, b.Write(api.Main, 0, 9, 9, 9))
		must(t, b.Crash(true))
		expect(t, crashed(t, a), api.Log, []byte{4, 6})
	}
	want := append([]byte{1, 0}, some(600)[2:]...)
	expect(t, d, api.Main, want)
	expect(t, d, api.Log, []byte{4, 5})
	expectState(t, d, 2, 4)
	expect(t, crashed(t, d), api.Main, some(600))
	expect(t, crashed(t, d, true), api.Main, want)
}

func TestP43CopiesShareNoMemory(t *testing.T) {
	for pieces := range 9 {
		d := disk.New()
		must(t, d.Write(api.Main, 0, some(100)...))
		for range pieces {
			must(t, d.Truncate(api.Main, 50))
		}
		must(t, d.Sync(api.Log))
		copies := []*disk.Disk{d.Clone(), d.Clone(), d}
		var wants [][]byte
		for i, c := range copies {
			want := content(t, c, api.Main)
			must(t, c.Write(api.Main, len(want), byte(i), byte(i)))
			must(t, c.Write(api.Main, 0, byte(i)))
			want = append(want, byte(i), byte(i))
			want[0] = byte(i)
			wants = append(wants, want)
		}
		for i, c := range copies {
			expect(t, c, api.Main, wants[i])
			must(t, c.Crash(slices.Repeat([]bool{true}, pieces+3)...))
		}
		for i, c := range copies {
			must(t, c.Restart())
			expect(t, c, api.Main, wants[i])
		}
	}
}
