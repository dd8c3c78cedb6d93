package pager_test

import (
	"bytes"
	"math"
	"slices"
	"testing"

	"colonnade/api"
	"colonnade/disk"
)

// noBlocks are numbers that are not those of a block, if there are this many.
func noBlocks(blocks int) []int {
	return []int{0, 1, -1, -2, blocks, blocks + 1, api.MaxBlocks, math.MaxInt, math.MinInt, 1<<32 + 2, -api.MaxBlocks}
}

func TestP54Alloc(t *testing.T) {
	p := opened(t, headed(t, nil, sector(1, 3, 8)))
	must(t, p.Claim(2, 4, 7))
	expectAlloc(t, p, 3, 5)
	must(t, p.Free(3))
	expectUsed(t, p, 2, 4, 5, 7)
	expectAlloc(t, p, 3, 6, 8, 9)
	must(t, p.Free(8))
	must(t, p.Free(9))
	must(t, p.Free(6))
	must(t, p.Free(4))
	expectUsed(t, p, 2, 3, 4, 5, 7)
	expectAlloc(t, p, 6, 8, 9, 10)
	expectHead(t, p, 1, 3, 8)
}

func TestP54AllocUntilFull(t *testing.T) {
	d := disk.New()
	p := opened(t, d)
	expectAlloc(t, p, between(2, api.MaxBlocks)...)
	for range 2 {
		if n, e := p.Alloc(); n != 0 || e != api.ErrFull {
			t.Fatalf("Alloc without room = %d, %d", n, e)
		}
	}
	expectUsed(t, p, between(2, api.MaxBlocks)...)
	must(t, p.Write(1023, some(4090, 1)...))
	expectRead(t, p, 1023, some(4090, 1))
	must(t, p.Free(1023))
	must(t, p.Free(700))
	expectAlloc(t, p, 700, 1023)
	must(t, p.Free(1023))
	must(t, p.Commit(2))
	expectHead(t, p, 1, 2, api.MaxBlocks)
	must(t, p.Free(500))
	if p.Room() != 1 {
		t.Errorf("Room() = %d", p.Room())
	}
	expectAlloc(t, p, 1023)
	if n, e := p.Alloc(); n != 0 || e != api.ErrFull {
		t.Errorf("Alloc of a block that remains in use = %d, %d", n, e)
	}
	if d.Calls() != 4 {
		t.Errorf("%d calls of the disk", d.Calls())
	}
}

func TestP54AllocNeedsNoDisk(t *testing.T) {
	d := disk.New()
	p := opened(t, d)
	must(t, d.Crash())
	expectAlloc(t, p, 2, 3)
	must(t, p.Free(2))
	expectUsed(t, p, 3)
	expectHead(t, p, 0, 0, 2)
	expectErr(t, "Claim", p.Claim(2), api.ErrArg)
	must(t, p.Free(3))
	must(t, p.Claim(2))
	expectUsed(t, p, 2)
}

func TestP54Write(t *testing.T) {
	d := disk.New()
	p := opened(t, d)
	expectAlloc(t, p, 2, 3, 4)
	want := make([]byte, 5*api.Block)
	for _, x := range []struct{ n, size int }{{4, 4090}, {2, 0}, {3, 1}, {3, 4089}, {4, 256}, {2, 77}, {3, 0}} {
		b := some(x.size, x.n)
		must(t, p.Write(x.n, b...))
		if !bytes.Equal(b, some(x.size, x.n)) {
			t.Fatal("Write has changed its arguments")
		}
		copy(want[x.n*api.Block:], sealed(b))
		if got := content(t, d); !bytes.Equal(got, want) {
			t.Fatalf("Write(%d) of %d bytes: the file is unlike the chapter's", x.n, x.size)
		}
		clear(b)
		expectRead(t, p, x.n, some(x.size, x.n))
	}
	if d.Calls() != 7 || d.Pending() != 7*8 {
		t.Errorf("7 Writes made %d calls and %d pieces", d.Calls(), d.Pending())
	}
}

func TestP54WriteErrors(t *testing.T) {
	d := headed(t, nil, sector(1, 3, 5))
	p := opened(t, d)
	must(t, p.Claim(2, 3))
	expectAlloc(t, p, 4, 5)
	must(t, p.Free(3))
	must(t, p.Free(4))
	calls := d.Calls()
	long := make([]byte, 4091)
	for _, down := range []bool{false, true} {
		if down {
			must(t, d.Crash())
		}
		for _, n := range noBlocks(6) {
			expectErr(t, "Write of no block", p.Write(n), api.ErrArg)
			expectErr(t, "Write of no block", p.Write(n, long...), api.ErrArg)
		}
		for _, n := range []int{2, 3, 4} {
			expectErr(t, "Write of a block in use, freed or free", p.Write(n), api.ErrKept)
			expectErr(t, "Write of a block in use, freed or free", p.Write(n, long...), api.ErrKept)
		}
		expectErr(t, "Write of too much", p.Write(5, long...), api.ErrLong)
		expectErr(t, "Write of too much", p.Write(5, make([]byte, 70000)...), api.ErrLong)
	}
	expectErr(t, "Write without power", p.Write(5, 1), api.ErrDown)
	must(t, d.Restart())
	if d.Calls() != calls || d.Pending() != 0 {
		t.Errorf("rejected Writes made %d calls", d.Calls()-calls)
	}
	expectUsed(t, p, 2, 3, 5)
	must(t, p.Write(5, 1))
	must(t, p.Commit(5))
	expectErr(t, "Write after a commit", p.Write(5, 2), api.ErrKept)
	expectRead(t, p, 5, []byte{1})
}

func TestP54WriteAtAFuse(t *testing.T) {
	d := disk.New()
	p := opened(t, d)
	expectAlloc(t, p, 2, 3)
	must(t, p.Write(2, 1))
	must(t, d.SetFuse(1, slices.Repeat([]bool{true}, 16)...))
	expectErr(t, "Write with a fuse", p.Write(3, 2), api.ErrDown)
	must(t, d.Restart())
	expectUsed(t, p, 2, 3)
	expectRead(t, p, 2, []byte{1})
	expectRead(t, p, 3, []byte{2})
	must(t, p.Write(3, 4))
	expectRead(t, p, 3, []byte{4})
}

func TestP54Read(t *testing.T) {
	file := slices.Concat(make([]byte, api.Block), padded(sector(1, 2, 8), api.Block), sealed(nil), sealed(some(4090, 3)), make([]byte, api.Block), some(api.Block, 1), block(4091, nil), sealed(some(9, 7))[:4095])
	d := laid(t, file)
	p := opened(t, d)
	must(t, p.Claim(3))
	for range 2 {
		expectRead(t, p, 2, nil)
		expectRead(t, p, 3, some(4090, 3))
		for n := 4; n < 8; n++ {
			if b, e := p.Read(n); b != nil || e != api.ErrCorrupt {
				t.Errorf("Read(%d) of a damaged block = %v, %d", n, b, e)
			}
		}
	}
	b, _ := p.Read(3)
	clear(b)
	expectRead(t, p, 3, some(4090, 3))
	for _, n := range noBlocks(8) {
		if b, e := p.Read(n); b != nil || e != api.ErrArg {
			t.Errorf("Read(%d) = %v, %d", n, b, e)
		}
	}
	expectAlloc(t, p, 2, 4, 5, 6, 7, 8)
	if b, e := p.Read(8); b != nil || e != api.ErrCorrupt {
		t.Errorf("Read of a fresh block = %v, %d", b, e)
	}
	must(t, d.Crash())
	for n := 2; n < 9; n++ {
		if b, e := p.Read(n); b != nil || e != api.ErrDown {
			t.Errorf("Read(%d) without power = %v, %d", n, b, e)
		}
	}
	for _, n := range noBlocks(9) {
		if b, e := p.Read(n); b != nil || e != api.ErrArg {
			t.Errorf("Read(%d) without power = %v, %d", n, b, e)
		}
	}
}

func TestP54Free(t *testing.T) {
	p := opened(t, headed(t, nil, sector(1, 3, 6)))
	must(t, p.Claim(2, 3, 5))
	for _, n := range append(noBlocks(6), 4) {
		expectErr(t, "Free of what is not used", p.Free(n), api.ErrArg)
	}
	must(t, p.Free(2))
	must(t, p.Free(5))
	expectErr(t, "Free once more", p.Free(2), api.ErrArg)
	expectErr(t, "Free once more", p.Free(5), api.ErrArg)
	expectUsed(t, p, 2, 3, 5)
	expectAlloc(t, p, 4, 6, 7)
	must(t, p.Free(4))
	must(t, p.Free(7))
	expectErr(t, "Free of a block that was fresh", p.Free(4), api.ErrArg)
	expectErr(t, "Free of a block that was fresh", p.Free(7), api.ErrArg)
	expectErr(t, "Free of a block that is not added yet", p.Free(8), api.ErrArg)
	expectUsed(t, p, 2, 3, 5, 6)
	expectAlloc(t, p, 4, 7)
	expectErr(t, "Free once more", p.Free(2), api.ErrArg)
	must(t, p.Commit(0))
	expectUsed(t, p, 3, 4, 6, 7)
	expectErr(t, "Free of a free block", p.Free(2), api.ErrArg)
	must(t, p.Free(4))
	expectUsed(t, p, 3, 4, 6, 7)
	expectAlloc(t, p, 2, 5, 8)
	must(t, p.Commit(0))
	expectAlloc(t, p, 4)
}

func TestUsedIsNewMemory(t *testing.T) {
	p := opened(t, headed(t, nil, sector(1, 3, 6)))
	clear(p.Used())
	expectUsed(t, p, 2, 3, 4, 5)
}
