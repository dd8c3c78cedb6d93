package pager_test

import (
	"bytes"
	"math"
	"slices"
	"testing"

	"colonnade/api"
	"colonnade/disk"
	"colonnade/pager"
)

// laid is a disk whose main file has these bytes, made durable.
func laid(t *testing.T, b []byte) *disk.Disk {
	t.Helper()
	d := disk.New()
	must(t, d.Write(api.Main, 0, b...))
	must(t, d.Sync(api.Main))
	return d
}

// headed is a disk with these two sectors of headers; none if they are nil.
func headed(t *testing.T, even, odd []byte) *disk.Disk {
	t.Helper()
	d := disk.New()
	must(t, d.Write(api.Main, 0, even...))
	must(t, d.Write(api.Main, api.Block, odd...))
	must(t, d.Sync(api.Main))
	return d
}

func TestP53OpenErrors(t *testing.T) {
	broken := headed(t, []byte{1}, nil)
	must(t, broken.Crash())
	empty := disk.New()
	must(t, empty.Crash())
	for _, x := range []struct {
		d *disk.Disk
		e api.Errno
	}{{nil, api.ErrMade}, {new(disk.Disk), api.ErrMade}, {empty, api.ErrDown}, {broken, api.ErrDown}} {
		if p, e := pager.Open(x.d); p != nil || e != x.e {
			t.Errorf("Open = %v, %d; want %d", p, e, x.e)
		}
	}
	must(t, broken.Restart())
	if p, e := pager.Open(broken); p != nil || e != api.ErrCorrupt {
		t.Errorf("Open of a damaged header = %v, %d", p, e)
	}
}

func TestP53OpenWithoutHeader(t *testing.T) {
	for _, n := range []int{0, 1, 511, 512, 4095, 4096, 4097, 4608, 8192, 20000} {
		b := make([]byte, n)
		if n > 4608 {
			b = append(b, some(500, 1)...)
		}
		if n > 512 { // what is behind a header says nothing
			b[min(n-1, 4095)] = 255
			b[512] = 255
		}
		if n == 4097 {
			b[4096] = 0
		}
		d := laid(t, b)
		calls := d.Calls()
		p := opened(t, d)
		expectHead(t, p, 0, 0, 2)
		expectUsed(t, p)
		expectErr(t, "Write", p.Write(2, 1), api.ErrArg)
		if d.Calls() != calls || d.Pending() != 0 || !bytes.Equal(content(t, d), b) {
			t.Errorf("Open has changed the disk with %d bytes", n)
		}
		expectAlloc(t, p, 2)
	}
}

func TestP53OpenFindsTheGreaterGeneration(t *testing.T) {
	for _, x := range []struct{ even, odd, want api.Head }{
		{api.Head{}, api.Head{Gen: 1, Root: 2, Blocks: 3}, api.Head{Gen: 1, Root: 2, Blocks: 3}},
		{api.Head{Gen: 2, Root: 4, Blocks: 5}, api.Head{}, api.Head{Gen: 2, Root: 4, Blocks: 5}},
		{api.Head{Gen: 2, Root: 4, Blocks: 5}, api.Head{Gen: 1, Root: 2, Blocks: 9}, api.Head{Gen: 2, Root: 4, Blocks: 5}},
		{api.Head{Gen: 2, Root: 4, Blocks: 5}, api.Head{Gen: 3, Root: 0, Blocks: 2}, api.Head{Gen: 3, Root: 0, Blocks: 2}},
		{api.Head{Gen: 200, Root: 0, Blocks: 5}, api.Head{Gen: 3, Root: 5, Blocks: 7}, api.Head{Gen: 200, Root: 0, Blocks: 5}},
		{api.Head{Gen: 20, Root: 0, Blocks: 5}, api.Head{Gen: 1<<33 + 1, Root: 5, Blocks: 7}, api.Head{Gen: 1<<33 + 1, Root: 5, Blocks: 7}},
		{api.Head{Gen: maxGen, Root: 0, Blocks: 1024}, api.Head{Gen: maxGen - 1, Root: 5, Blocks: 7}, api.Head{Gen: maxGen, Root: 0, Blocks: 1024}},
	} {
		var sectors [2][]byte
		for i, h := range []api.Head{x.even, x.odd} {
			if h.Gen > 0 {
				sectors[i] = written(h)
			}
		}
		p := opened(t, headed(t, sectors[0], sectors[1]))
		expectHead(t, p, x.want.Gen, x.want.Root, x.want.Blocks)
		expectUsed(t, p, between(2, x.want.Blocks)...)
	}
}

func TestP53OpenOfDamagedHeaders(t *testing.T) {
	one, two, three := sector(1, 0, 2), sector(2, 2, 3), sector(3, 0, 2)
	damaged := slices.Clone(one)
	damaged[300] = 1
	for i, x := range []struct{ even, odd []byte }{
		{one, nil}, {nil, two}, {two, two}, {three, three}, {one, two}, {one, three}, {two, damaged}, {damaged, one}, {damaged, nil}, {nil, damaged}, {damaged, damaged},
		{[]byte{1}, nil}, {nil, []byte{1}}, {append(make([]byte, 511), 1), one}, {two, append(make([]byte, 511), 128)}, {sector(0, 0, 2), nil}, {sector(0, 0, 2), one}, {two, sector(maxGen+1, 0, 2)}, {sector(maxGen+2, 0, 2), one},
		{two[:511], one}, {sector(4, 3, 3), three}, {sector(4, 0, 1025), three},
	} {
		if p, e := pager.Open(headed(t, x.even, x.odd)); p != nil || e != api.ErrCorrupt {
			t.Errorf("Open of pair %d = %v, %d", i, p, e)
		}
	}
}

func TestP53WhatIsBeyondTheEndIsZero(t *testing.T) {
	gen := int64(1)
	for sector(gen, 0, 2)[511] != 0 {
		gen += 2
	}
	b := append(make([]byte, api.Block), sector(gen, 0, 2)...)
	expectHead(t, opened(t, laid(t, b[:len(b)-1])), gen, 0, 2)
	for cut := 2; cut < 512; cut++ {
		if p, e := pager.Open(laid(t, b[:len(b)-cut])); p != nil || e != api.ErrCorrupt {
			t.Fatalf("Open of a header without its last %d bytes = %v, %d", cut, p, e)
		}
	}
	expectHead(t, opened(t, laid(t, b[:len(b)-512])), 0, 0, 2)
	gen = 2
	for sector(gen, 0, 2)[511] != 0 {
		gen += 2
	}
	expectHead(t, opened(t, laid(t, sector(gen, 0, 2)[:511])), gen, 0, 2)
}

func TestP53AllIsInUseAtFirst(t *testing.T) {
	p := opened(t, headed(t, nil, sector(1, 3, 6)))
	expectUsed(t, p, 2, 3, 4, 5)
	for n := 2; n < 6; n++ {
		expectErr(t, "Write", p.Write(n, 1), api.ErrKept)
	}
	expectAlloc(t, p, 6)
	expectHead(t, p, 1, 3, 6)
	for n := 2; n < 6; n++ {
		must(t, p.Free(n))
	}
	expectUsed(t, p, 2, 3, 4, 5, 6)
	full := opened(t, headed(t, nil, sector(1, 3, 1024)))
	expectUsed(t, full, between(2, 1024)...)
	if n, e := full.Alloc(); n != 0 || e != api.ErrFull {
		t.Errorf("Alloc without room = %d, %d", n, e)
	}
}

func TestP53OpenReadsWhatIsNotDurable(t *testing.T) {
	d := disk.New()
	must(t, d.Write(api.Main, 0, sector(8, 2, 3)...))
	expectHead(t, opened(t, d), 8, 2, 3)
	must(t, d.Write(api.Log, 0, 1, 2, 3))
	expectHead(t, opened(t, d), 8, 2, 3)
}

func TestP53Claim(t *testing.T) {
	for _, x := range [][]int{nil, {}, {2}, {7}, {7, 2}, {4, 3, 6}, {2, 3, 4, 5, 6, 7}, {7, 6, 5, 4, 3, 2}} {
		p := opened(t, headed(t, nil, sector(1, 3, 8)))
		l := slices.Clone(x)
		must(t, p.Claim(l...))
		if !slices.Equal(l, x) {
			t.Errorf("Claim%v has changed its arguments", x)
		}
		clear(l)
		used := slices.Sorted(slices.Values(x))
		expectUsed(t, p, used...)
		expectHead(t, p, 1, 3, 8)
		for n := 2; n < 8; n++ {
			expectErr(t, "Write", p.Write(n, 1), api.ErrKept)
			want := api.OK
			if !slices.Contains(x, n) {
				want = api.ErrArg
			}
			expectErr(t, "Free", p.Free(n), want)
		}
		expectUsed(t, p, used...)
		for n := 2; n < 10; n++ {
			if !slices.Contains(x, n) {
				expectAlloc(t, p, n)
			}
		}
		expectUsed(t, p, between(2, 10)...)
	}
}

func TestP53ClaimErrors(t *testing.T) {
	p := opened(t, headed(t, nil, sector(1, 3, 8)))
	must(t, p.Claim(3, 5, 7))
	must(t, p.Free(5))
	for _, l := range [][]int{{0}, {1}, {-1}, {-2}, {8}, {1024}, {math.MaxInt}, {math.MinInt}, {2, 2}, {2, 3, 4, 2}, {7, 6, 7}, {2, 3, 8}, {2, 1}, {2, 3, 3, 2}, {1<<32 + 2}} {
		expectErr(t, "Claim", p.Claim(l...), api.ErrArg)
	}
	expectUsed(t, p, 3, 5, 7)
	expectErr(t, "Free after a rejected Claim", p.Free(5), api.ErrArg)
	expectAlloc(t, p, 2)
	for _, l := range [][]int{nil, {2}, {3}, {2, 3, 5, 7}} {
		expectErr(t, "Claim with a fresh block", p.Claim(l...), api.ErrArg)
	}
	expectUsed(t, p, 2, 3, 5, 7)
	must(t, p.Free(2))
	must(t, p.Claim(2))
	expectUsed(t, p, 2)
}

func TestP53ClaimKnowsBlocksThatWereAdded(t *testing.T) {
	p := opened(t, disk.New())
	must(t, p.Claim())
	expectErr(t, "Claim", p.Claim(2), api.ErrArg)
	expectAlloc(t, p, 2, 3, 4)
	for _, n := range []int{2, 3, 4} {
		must(t, p.Free(n))
	}
	expectErr(t, "Claim", p.Claim(5), api.ErrArg)
	must(t, p.Claim(4, 2))
	expectUsed(t, p, 2, 4)
	expectHead(t, p, 0, 0, 2)
	must(t, p.Commit(4))
	expectHead(t, p, 1, 4, 5)
	expectAlloc(t, p, 3, 5)
}

func TestP53ClaimLetsWhatWasFreedBeInUse(t *testing.T) {
	p := opened(t, headed(t, nil, sector(1, 3, 6)))
	must(t, p.Free(2))
	must(t, p.Free(3))
	must(t, p.Claim(2, 5))
	expectUsed(t, p, 2, 5)
	must(t, p.Commit(5))
	expectUsed(t, p, 2, 5)
	must(t, p.Free(2))
	must(t, p.Commit(5))
	expectUsed(t, p, 5)
}
