package pager_test

import (
	"bytes"
	"math"
	"slices"
	"testing"

	"colonnade/api"
	"colonnade/disk"
	"colonnade/pager"
)

// pieceSize is how many bytes of a stream a block has.
const pieceSize = 4086

// pieces are a stream's pieces by the chapter's words.
func pieces(b []byte) [][]byte {
	var l [][]byte
	for len(b) > pieceSize {
		l = append(l, b[:pieceSize])
		b = b[pieceSize:]
	}
	return append(l, b)
}

// expectPut tells if a stream is not put into the blocks that are given, in the order in which they are to be allocated.
func expectPut(t *testing.T, d *disk.Disk, p *pager.Pager, b []byte, blocks ...int) {
	t.Helper()
	parts := pieces(b)
	if len(parts) != len(blocks) {
		t.Fatalf("%d bytes are %d pieces, not %d", len(b), len(parts), len(blocks))
	}
	before, calls, given := content(t, d), d.Calls(), slices.Clone(b)
	first, e := p.Put(b)
	if first != blocks[len(blocks)-1] || e != api.OK {
		t.Fatalf("Put of %d bytes = %d, %d; want %d", len(b), first, e, blocks[len(blocks)-1])
	}
	want := padded(before, max(len(before), (slices.Max(blocks)+1)*api.Block))
	next := 0
	for i, n := range blocks {
		copy(want[n*api.Block:], sealed(linked(uint32(next), parts[len(parts)-1-i])))
		next = n
	}
	if !bytes.Equal(content(t, d), want) || d.Calls() != calls+int64(len(blocks)) {
		t.Fatalf("Put of %d bytes: the file is unlike the chapter's", len(b))
	}
	if !bytes.Equal(b, given) {
		t.Fatal("Put has changed its argument")
	}
	slices.Reverse(blocks)
	expectGet(t, p, first, given, blocks...)
}

func TestP55Put(t *testing.T) {
	for _, n := range []int{0, 1, 3, 4, 4085, 4086, 4087, 4090, 4091, 8171, 8172, 8173, 12258, 12259, 100000, api.MaxStream - 1, api.MaxStream} {
		d := disk.New()
		p := opened(t, d)
		count := max(1, (n+pieceSize-1)/pieceSize)
		expectPut(t, d, p, some(n, n), between(2, 2+count)...)
		expectUsed(t, p, between(2, 2+count)...)
		expectHead(t, p, 0, 0, 2)
		expectErr(t, "Write of a block of a stream", p.Write(2, 1), api.OK)
	}
}

func TestP55PutUsesTheLeastFreeBlocks(t *testing.T) {
	d := headed(t, nil, sector(1, 3, 12))
	p := opened(t, d)
	must(t, p.Claim(3, 4, 8, 11))
	expectPut(t, d, p, some(5*pieceSize+1, 1), 2, 5, 6, 7, 9, 10)
	expectPut(t, d, p, some(2*pieceSize, 2), 12, 13)
	expectPut(t, d, p, nil, 14)
	expectGet(t, p, 10, some(5*pieceSize+1, 1), 10, 9, 7, 6, 5, 2)
	must(t, p.Free(9))
	must(t, p.Free(4))
	expectPut(t, d, p, []byte{}, 9)
	expectPut(t, d, p, make([]byte, 10), 15)
}

func TestP55PutErrors(t *testing.T) {
	d := disk.New()
	p := opened(t, d)
	expectAlloc(t, p, between(2, 1022)...)
	must(t, p.Write(2, 7))
	calls := d.Calls()
	for _, down := range []bool{false, true} {
		if down {
			must(t, d.Crash(slices.Repeat([]bool{true}, 8)...))
		}
		for _, x := range []struct {
			n int
			e api.Errno
		}{
			{api.MaxStream + 1, api.ErrLong}, {2 * api.MaxStream, api.ErrLong}, {api.MaxStream, api.ErrFull}, {2*pieceSize + 1, api.ErrFull}, {3 * pieceSize, api.ErrFull},
		} {
			if n, e := p.Put(make([]byte, x.n)); n != 0 || e != x.e {
				t.Errorf("Put of %d bytes = %d, %d; want %d", x.n, n, e, x.e)
			}
		}
		expectUsed(t, p, between(2, 1022)...)
	}
	must(t, d.Restart())
	if d.Calls() != calls {
		t.Errorf("rejected Puts made %d calls", d.Calls()-calls)
	}
	expectRead(t, p, 2, []byte{7})
	expectPut(t, d, p, some(2*pieceSize, 2), 1022, 1023)
	for _, n := range []int{0, 1, pieceSize} {
		if n, e := p.Put(make([]byte, n)); n != 0 || e != api.ErrFull {
			t.Errorf("Put without room = %d, %d", n, e)
		}
	}
	must(t, p.Free(500))
	must(t, p.Free(100))
	expectPut(t, d, p, some(pieceSize+1, 2), 100, 500)
}

func TestP55PutRoomOfFreeBlocksAndNewOnes(t *testing.T) {
	d := headed(t, nil, sector(1, 3, 1023))
	p := opened(t, d)
	must(t, p.Free(8))
	if n, e := p.Put(make([]byte, pieceSize+1)); n != 0 || e != api.ErrFull {
		t.Errorf("Put into a block that remains in use = %d, %d", n, e)
	}
	expectUsed(t, p, between(2, 1023)...)
	must(t, p.Commit(0))
	expectPut(t, d, p, some(pieceSize+1, 5), 8, 1023)
}

func TestP55PutWithoutPower(t *testing.T) {
	for at := range 4 {
		d := headed(t, nil, sector(1, 3, 6))
		p := opened(t, d)
		must(t, p.Claim(3, 4))
		want := []int{3, 4}
		if at == 0 {
			must(t, d.Crash())
		} else {
			must(t, d.SetFuse(at, slices.Repeat([]bool{true}, 64)...))
		}
		if n, e := p.Put(some(3*pieceSize, 1)); n != 0 || e != api.ErrDown {
			t.Errorf("Put without power = %d, %d", n, e)
		}
		want = append(want, []int{2, 5, 6}[:max(1, at)]...)
		slices.Sort(want)
		expectUsed(t, p, want...)
		must(t, d.Restart())
		if at > 0 {
			expectRead(t, p, 2, linked(0, some(3*pieceSize, 1)[2*pieceSize:]))
		}
		must(t, p.Write(2, 1))
		must(t, p.Free(2))
		expectAlloc(t, p, 2)
	}
}

// chained is a pager whose blocks, from 2 on, have these data, and are all in use.
func chained(t *testing.T, l ...[]byte) *pager.Pager {
	t.Helper()
	file := padded(padded(nil, api.Block), api.Block)
	file = append(file, padded(sector(1, 0, int64(2+len(l))), api.Block)...)
	for _, b := range l {
		file = append(file, sealed(b)...)
	}
	return opened(t, laid(t, file))
}

func TestP55Get(t *testing.T) {
	p := chained(t, linked(4, some(10, 1)), linked(0, nil), linked(3, nil), linked(6, some(pieceSize, 5)), linked(2, some(1, 6)))
	expectGet(t, p, 3, nil, 3)
	expectGet(t, p, 4, nil, 4, 3)
	expectGet(t, p, 2, some(10, 1), 2, 4, 3)
	expectGet(t, p, 6, append(some(1, 6), some(10, 1)...), 6, 2, 4, 3)
	want := slices.Concat(some(pieceSize, 5), some(1, 6), some(10, 1))
	expectGet(t, p, 5, want, 5, 6, 2, 4, 3)
	b, l, _ := p.Get(5)
	clear(b)
	clear(l)
	expectGet(t, p, 5, want, 5, 6, 2, 4, 3)
	must(t, p.Claim(2))
	expectGet(t, p, 5, want, 5, 6, 2, 4, 3)
	expectUsed(t, p, 2)
}

// expectNoGet tells if a stream is read that is not one.
func expectNoGet(t *testing.T, p *pager.Pager, first int, want api.Errno) {
	t.Helper()
	if b, l, e := p.Get(first); b != nil || l != nil || e != want {
		t.Errorf("Get(%d) = %d bytes, %v, %d; want %d", first, len(b), l, e, want)
	}
}

func TestP55GetErrors(t *testing.T) {
	for _, l := range [][][]byte{
		{nil}, {{0}}, {{0, 0}}, {{0, 0, 0}}, {{3, 0, 0}, linked(0, nil)}, {linked(3, nil), {0, 0, 0}}, {linked(3, nil), nil},
		{linked(2, some(5, 1))}, {linked(3, nil), linked(2, nil)}, {linked(3, nil), linked(3, nil)}, {linked(3, nil), linked(4, nil), linked(3, nil)}, {linked(4, nil), linked(2, nil), linked(3, nil)},
		{linked(1, nil)}, {linked(3, nil)}, {linked(4, nil)}, {linked(3, nil), linked(1, nil)}, {linked(3, nil), linked(4, nil)}, {linked(api.MaxBlocks, nil)},
		{linked(math.MaxUint32, nil)}, {linked(1<<31, nil)}, {linked(1<<24, nil), nil}, {linked(3<<24, nil), linked(0, nil)}, {linked(1<<16, nil)}, {linked(1<<16+3, nil), linked(0, nil)}, {linked(1<<8, nil)}, {linked(1<<31+3, nil), linked(0, nil)},
	} {
		expectNoGet(t, chained(t, l...), 2, api.ErrCorrupt)
	}
	p := chained(t, linked(3, nil), linked(0, nil))
	for _, n := range noBlocks(4) {
		expectNoGet(t, p, n, api.ErrArg)
	}
}

func TestP55GetWithoutPower(t *testing.T) {
	d := disk.New()
	p := opened(t, d)
	_, e := p.Put(some(9000, 1))
	must(t, e)
	must(t, d.Crash(slices.Repeat([]bool{true}, 24)...))
	for n := 2; n < 5; n++ {
		expectNoGet(t, p, n, api.ErrDown)
	}
	for _, n := range noBlocks(5) {
		expectNoGet(t, p, n, api.ErrArg)
	}
	must(t, d.Restart())
	expectGet(t, p, 4, some(9000, 1), 4, 3, 2)
}

func TestP55GetOfADamagedBlock(t *testing.T) {
	for n := range 3 {
		d := disk.New()
		p := opened(t, d)
		_, e := p.Put(some(9000, 1))
		must(t, e)
		must(t, d.Write(api.Main, (n+2)*api.Block+100+n, 0))
		for first := 2; first < 5; first++ {
			if first >= n+2 {
				expectNoGet(t, p, first, api.ErrCorrupt)
			} else if _, _, e := p.Get(first); e != api.OK {
				t.Errorf("Get(%d) with block %d damaged: %d", first, n+2, e)
			}
		}
		must(t, d.Truncate(api.Main, (n+3)*api.Block-1))
		expectNoGet(t, p, 4, api.ErrCorrupt)
	}
}

func TestP55GetOfMaxStream(t *testing.T) {
	full := api.MaxStream / pieceSize
	rest := api.MaxStream % pieceSize
	for _, x := range []struct {
		rest, more int
		e          api.Errno
	}{{rest, 0, api.OK}, {rest, 1, api.OK}, {rest + 1, 0, api.ErrCorrupt}, {rest + 1, 1, api.ErrCorrupt}, {pieceSize, 0, api.ErrCorrupt}, {pieceSize, 700, api.ErrCorrupt}, {rest - 1, 0, api.OK}} {
		var l [][]byte
		for i := range full {
			l = append(l, linked(uint32(i+3), some(pieceSize, 1)))
		}
		l = append(l, linked(0, some(x.rest, 1)))
		for range x.more {
			l = append(l, linked(0, nil))
			copy(l[len(l)-2], linked(uint32(len(l)+1), nil))
		}
		p := chained(t, l...)
		b, blocks, e := p.Get(2)
		if e != x.e {
			t.Errorf("Get of %d bytes and %d blocks: %d; want %d", full*pieceSize+x.rest, len(l), e, x.e)
		}
		if e == api.OK && (len(b) != full*pieceSize+x.rest || !slices.Equal(blocks, between(2, 2+len(l)))) || e != api.OK && (b != nil || blocks != nil) {
			t.Errorf("Get has %d bytes, %d blocks", len(b), len(blocks))
		}
	}
}

func TestP55StreamOfAllBlocks(t *testing.T) {
	var l [][]byte
	for n := 3; n < api.MaxBlocks; n++ {
		l = append(l, linked(uint32(n), []byte{byte(n)}))
	}
	l = append(l, linked(0, []byte{0}))
	p := chained(t, l...)
	b, blocks, e := p.Get(2)
	if e != api.OK || len(b) != api.MaxBlocks-2 || !slices.Equal(blocks, between(2, api.MaxBlocks)) {
		t.Errorf("Get of all blocks: %d bytes, %d blocks, %d", len(b), len(blocks), e)
	}
	l[len(l)-1] = linked(700, nil)
	expectNoGet(t, chained(t, l...), 2, api.ErrCorrupt)
}
