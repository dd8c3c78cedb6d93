package pager_test

import (
	"bytes"
	"encoding/binary"
	"hash/crc32"
	"math"
	"slices"
	"testing"

	"colonnade/api"
	"colonnade/disk"
	"colonnade/pager"
)

// maxGen is the greatest generation of a head.
const maxGen = 1 << 40

// some is n bytes, none of them zero, that differ by their seed.
func some(n, seed int) []byte {
	b := make([]byte, n)
	for i := range b {
		b[i] = byte(1 + (i+seed*31+i/255*seed)%255)
	}
	return b
}

// signed is b with its checksum behind it, by the library's CRC-32C.
func signed(b []byte) []byte {
	sum := crc32.Checksum(b, crc32.MakeTable(crc32.Castagnoli))
	return binary.LittleEndian.AppendUint32(slices.Clone(b), sum)
}

// padded is b with zeros behind it, n bytes in all.
func padded(b []byte, n int) []byte {
	return append(slices.Clone(b), make([]byte, n-len(b))...)
}

// block is a block by the chapter's words, whatever its length is said to be.
func block(length int, b []byte) []byte {
	return signed(padded(append(binary.LittleEndian.AppendUint16(nil, uint16(length)), b...), api.Block-4))
}

// sealed is the block of b by the chapter's words.
func sealed(b []byte) []byte {
	return block(len(b), b)
}

// linked is what the data of a stream's block is by the chapter's words.
func linked(next uint32, piece []byte) []byte {
	return append(binary.LittleEndian.AppendUint32(nil, next), piece...)
}

// integer is the encoding of n by chapter 3's words.
func integer(n int64) []byte {
	if n < 0 {
		b := integer(-(n + 1))
		for i := range b {
			b[i] = ^b[i]
		}
		return b
	}
	if n <= 119 {
		return []byte{byte(128 + n)}
	}
	m := bytes.TrimLeft(binary.BigEndian.AppendUint64(nil, uint64(n-120)), "\x00")
	if len(m) == 0 {
		m = []byte{0}
	}
	return append([]byte{byte(247 + len(m))}, m...)
}

// sector is the sector of a header by the chapter's words, whatever its integers are.
func sector(l ...int64) []byte {
	var b []byte
	for _, n := range l {
		b = append(b, integer(n)...)
	}
	return signed(padded(b, api.Sector-4))
}

// must tells if a call that is to succeed did not.
func must(t *testing.T, e api.Errno) {
	t.Helper()
	if e != api.OK {
		t.Fatalf("error %d", e)
	}
}

// expectErr tells if a call did not answer the error wanted.
func expectErr(t *testing.T, name string, e, want api.Errno) {
	t.Helper()
	if e != want {
		t.Errorf("%s: %d; want %d", name, e, want)
	}
}

// opened is the pager of a disk.
func opened(t *testing.T, d *disk.Disk) *pager.Pager {
	t.Helper()
	p, e := pager.Open(d)
	if e != api.OK || p == nil {
		t.Fatalf("Open: %v, %d", p, e)
	}
	return p
}

// fresh is n blocks that are allocated now.
func fresh(t *testing.T, p *pager.Pager, n int) []int {
	t.Helper()
	var l []int
	for range n {
		b, e := p.Alloc()
		must(t, e)
		l = append(l, b)
	}
	return l
}

// expectAlloc tells if the blocks that are allocated next are not those wanted.
func expectAlloc(t *testing.T, p *pager.Pager, want ...int) {
	t.Helper()
	if got := fresh(t, p, len(want)); !slices.Equal(got, want) {
		t.Fatalf("Alloc gives %v; want %v", got, want)
	}
}

// expectUsed tells if the blocks that are in use or fresh are not those wanted, or the room is not what these leave.
func expectUsed(t *testing.T, p *pager.Pager, want ...int) {
	t.Helper()
	if got := p.Used(); !slices.Equal(got, want) {
		t.Fatalf("Used() = %v; want %v", got, want)
	}
	if got := p.Room(); got != api.MaxBlocks-2-len(want) {
		t.Fatalf("Room() = %d with %d blocks used", got, len(want))
	}
}

// expectHead tells if the head is not that wanted.
func expectHead(t *testing.T, p *pager.Pager, gen int64, root, blocks int) {
	t.Helper()
	if got := p.Head(); got != (api.Head{Gen: gen, Root: root, Blocks: blocks}) {
		t.Fatalf("Head() = %v; want %d %d %d", got, gen, root, blocks)
	}
}

// expectRead tells if a block does not contain what is wanted.
func expectRead(t *testing.T, p *pager.Pager, n int, want []byte) {
	t.Helper()
	if got, e := p.Read(n); e != api.OK || !bytes.Equal(got, want) {
		t.Fatalf("Read(%d) = %d bytes, %d; want %d bytes", n, len(got), e, len(want))
	}
}

// expectGet tells if a stream is not what is wanted.
func expectGet(t *testing.T, p *pager.Pager, first int, want []byte, blocks ...int) {
	t.Helper()
	got, l, e := p.Get(first)
	if e != api.OK || !bytes.Equal(got, want) || !slices.Equal(l, blocks) {
		t.Fatalf("Get(%d) = %d bytes, %v, %d; want %d bytes, %v", first, len(got), l, e, len(want), blocks)
	}
}

// content is all of the main file.
func content(t *testing.T, d *disk.Disk) []byte {
	t.Helper()
	b, e := d.Read(api.Main, 0, api.MaxFile)
	must(t, e)
	return b
}

// between is the numbers from one to another, without it.
func between(from, to int) []int {
	var l []int
	for n := from; n < to; n++ {
		l = append(l, n)
	}
	return l
}

func TestP51Seal(t *testing.T) {
	for _, n := range []int{0, 1, 2, 3, 255, 256, 257, 2000, 4085, 4086, 4088, 4089, 4090} {
		b := some(n, n)
		got, e := pager.Seal(b)
		if e != api.OK || !bytes.Equal(got, sealed(b)) || len(got) != api.Block {
			t.Errorf("Seal of %d bytes has %d bytes, %d, unlike the chapter's", n, len(got), e)
		}
		if !bytes.Equal(b, some(n, n)) {
			t.Errorf("Seal of %d bytes has changed its argument", n)
		}
	}
	for _, n := range []int{4091, 4092, 4096, 8192, 65535, 65536, 65541, api.MaxStream} {
		if got, e := pager.Seal(make([]byte, n)); got != nil || e != api.ErrLong {
			t.Errorf("Seal of %d bytes: %d bytes, %d", n, len(got), e)
		}
	}
	zeros, e := pager.Seal(make([]byte, 7))
	if e != api.OK || !bytes.Equal(zeros, sealed(make([]byte, 7))) {
		t.Error("Seal of zeros")
	}
}

func TestP51Unseal(t *testing.T) {
	for _, n := range []int{0, 1, 2, 255, 256, 257, 4089, 4090} {
		for _, want := range [][]byte{some(n, n), make([]byte, n)} {
			b := sealed(want)
			got, e := pager.Unseal(b)
			if e != api.OK || !bytes.Equal(got, want) {
				t.Errorf("Unseal of a block of %d bytes: %d bytes, %d", n, len(got), e)
			}
			clear(got)
			if !bytes.Equal(b, sealed(want)) {
				t.Errorf("the answer of Unseal shares memory with its argument")
			}
		}
	}
}

func TestP51UnsealErrors(t *testing.T) {
	b := some(100, 1)
	for _, x := range [][]byte{nil, {0}, sealed(b)[:4095], append(sealed(b), 0), signed(make([]byte, 508)), slices.Concat(sealed(b), sealed(b))} {
		if got, e := pager.Unseal(x); got != nil || e != api.ErrArg {
			t.Errorf("Unseal of %d bytes: %v, %d", len(x), got, e)
		}
	}
	behind := padded(append([]byte{100, 0}, b...), api.Block-4)
	late, early := slices.Clone(behind), slices.Clone(behind)
	early[102], late[api.Block-5] = 1, 128
	turned := sealed(b)
	slices.Reverse(turned[api.Block-4:])
	bare := padded(sealed(b)[:api.Block-4], api.Block)
	overlong := signed(padded(some(api.Block-4, 1), api.Block-4))
	for i, x := range [][]byte{
		make([]byte, api.Block), bytes.Repeat([]byte{255}, api.Block), turned, bare, signed(early), signed(late),
		block(4091, some(4090, 1)), block(4092, nil), block(65535, nil), block(65535, some(4090, 1)), block(99, b), block(0, b), overlong,
		append(sealed(b)[:api.Block-4], sealed(b[1:])[api.Block-4:]...), signed(padded(append([]byte{0, 100}, b...), api.Block-4)),
	} {
		if got, e := pager.Unseal(x); got != nil || e != api.ErrCorrupt {
			t.Errorf("Unseal of block %d, which nobody wrote: %v, %d", i, got, e)
		}
	}
	for i := range 4 {
		x := sealed(b)
		x[api.Block-4+i]++
		if got, e := pager.Unseal(x); got != nil || e != api.ErrCorrupt {
			t.Errorf("Unseal with byte %d of the checksum altered: %v, %d", i, got, e)
		}
	}
}

// heads are valid heads at each limit.
func heads() []api.Head {
	return []api.Head{
		{Gen: 1, Blocks: 2}, {Gen: 2, Blocks: 2}, {Gen: 1, Blocks: 3}, {Gen: 1, Root: 2, Blocks: 3}, {Gen: 1, Root: 3, Blocks: 4},
		{Gen: maxGen, Blocks: 2}, {Gen: maxGen - 1, Root: 1023, Blocks: 1024}, {Gen: maxGen, Root: 2, Blocks: 1024}, {Gen: 77, Root: 119, Blocks: 120}, {Gen: 119, Root: 120, Blocks: 121},
		{Gen: 120, Root: 375, Blocks: 376}, {Gen: 375, Root: 376, Blocks: 377}, {Gen: 376, Root: 500, Blocks: 1000}, {Gen: 1<<32 + 1, Root: 1022, Blocks: 1023}, {Gen: 1<<32 + 120, Root: 0, Blocks: 1024},
	}
}

// noHeads are heads that are not valid, each by one number beyond a limit.
func noHeads() []api.Head {
	return []api.Head{
		{}, {Gen: 0, Blocks: 2}, {Gen: 0, Root: 2, Blocks: 3}, {Gen: -1, Blocks: 2}, {Gen: math.MinInt64, Blocks: 2}, {Gen: maxGen + 1, Blocks: 2}, {Gen: maxGen + 2, Blocks: 2}, {Gen: math.MaxInt64, Blocks: 2}, {Gen: 1 << 41, Root: 2, Blocks: 3},
		{Gen: 1, Blocks: 1}, {Gen: 1, Blocks: 0}, {Gen: 1, Blocks: -1}, {Gen: 1, Blocks: math.MinInt}, {Gen: 2, Blocks: 1025}, {Gen: 2, Root: 2, Blocks: 1025}, {Gen: 2, Root: 1024, Blocks: 1025}, {Gen: 1, Blocks: math.MaxInt},
		{Gen: 1, Root: 1, Blocks: 2}, {Gen: 1, Root: 1, Blocks: 3}, {Gen: 1, Root: -1, Blocks: 3}, {Gen: 2, Root: 2, Blocks: 2}, {Gen: 1, Root: 3, Blocks: 3}, {Gen: 1, Root: 4, Blocks: 3}, {Gen: 2, Root: 1024, Blocks: 1024},
		{Gen: 1, Root: math.MaxInt, Blocks: 1024}, {Gen: 1, Root: math.MinInt, Blocks: 1024}, {Gen: 1, Root: 1<<32 + 2, Blocks: 3}, {Gen: 1, Root: 2, Blocks: 1<<32 + 3},
	}
}

// written is the sector of a head by the chapter's words, valid or not.
func written(h api.Head) []byte {
	return sector(h.Gen, int64(h.Root), int64(h.Blocks))
}

// place is where the header of a head belongs.
func place(h api.Head) int {
	return int(h.Gen % 2)
}

func TestP52Header(t *testing.T) {
	for _, h := range heads() {
		if got, e := pager.Header(h); e != api.OK || !bytes.Equal(got, written(h)) || len(got) != api.Sector {
			t.Errorf("Header(%v) = %v, %d; want %v", h, got, e, written(h))
		}
	}
	for _, h := range noHeads() {
		if got, e := pager.Header(h); got != nil || e != api.ErrArg {
			t.Errorf("Header(%v) = %v, %d", h, got, e)
		}
	}
	want := padded([]byte{129, 131, 132}, 508)
	if got, e := pager.Header(api.Head{Gen: 1, Root: 3, Blocks: 4}); e != api.OK || !bytes.Equal(got, signed(want)) {
		t.Errorf("Header of 1 3 4 = %v, %d", got, e)
	}
}

// expectHeading tells if what a header says is not what is wanted.
func expectHeading(t *testing.T, b []byte, at int, want api.Head, there bool, e api.Errno) {
	t.Helper()
	before := slices.Clone(b)
	got, ok, err := pager.Heading(b, at)
	if got != want || ok != there || err != e {
		t.Errorf("Heading(%.20v.., %d) = %v, %v, %d; want %v, %v, %d", b, at, got, ok, err, want, there, e)
	}
	if !bytes.Equal(b, before) {
		t.Error("Heading has changed its argument")
	}
}

// anyPlaces are places that are, and some that are not.
var anyPlaces = []int{0, 1, 2, 3, -1, -2, math.MaxInt, math.MinInt}

func TestP52Heading(t *testing.T) {
	for _, h := range heads() {
		for _, at := range anyPlaces {
			if at == place(h) {
				expectHeading(t, written(h), at, h, true, api.OK)
			} else {
				expectHeading(t, written(h), at, api.Head{}, false, api.ErrCorrupt)
			}
		}
	}
	for _, at := range anyPlaces {
		expectHeading(t, make([]byte, api.Sector), at, api.Head{}, false, api.OK)
	}
}

func TestP52HeadingErrors(t *testing.T) {
	h := api.Head{Gen: 1, Root: 3, Blocks: 4}
	for _, at := range anyPlaces {
		for _, b := range [][]byte{nil, {0}, make([]byte, 511), make([]byte, 513), make([]byte, api.Block), written(h)[:511], append(written(h), 0), sealed(written(h))} {
			expectHeading(t, b, at, api.Head{}, false, api.ErrArg)
		}
	}
	for _, h := range noHeads() {
		for at := range 2 {
			expectHeading(t, written(h), at, api.Head{}, false, api.ErrCorrupt)
		}
	}
	tail := written(h)
	tail[507] = 1
	gap := written(h)
	gap[3] = 128
	turned := written(h)
	slices.Reverse(turned[508:])
	for _, b := range [][]byte{
		signed(tail[:508]), signed(gap[:508]), tail, turned, padded(written(h)[:508], 512), bytes.Repeat([]byte{255}, 512), padded([]byte{1}, 512), append(make([]byte, 511), 1), signed(make([]byte, 508)),
		sector(1), sector(1, 0), sector(1, 0, 2, 0), sector(1, 0, 2, 1), sector(1, -1, 2), sector(1, 0, 1<<32+2), sector(1, 1<<32, 2), sector(1<<32+1<<41, 0, 2), sector(math.MaxInt64, 0, 2),
		signed(padded([]byte{1, 0, 2}, 508)), signed(padded([]byte{129, 128}, 508)), signed(padded([]byte{248, 0, 128}, 508)), signed(padded([]byte{249, 0, 1, 128, 130}, 508)),
		signed(padded([]byte{129, 128, 249, 0, 0}, 508)), signed(padded([]byte{255, 255, 255, 255, 255, 255, 255, 255, 255, 128, 130}, 508)), signed(padded([]byte{0, 129, 128, 130}, 508)), signed(bytes.Repeat([]byte{255}, 508)),
	} {
		for at := range 2 {
			expectHeading(t, b, at, api.Head{}, false, api.ErrCorrupt)
		}
	}
	for i := range 4 {
		b := written(h)
		b[508+i] ^= 16
		expectHeading(t, b, 1, api.Head{}, false, api.ErrCorrupt)
	}
}

func TestP52HeaderIsNewMemory(t *testing.T) {
	h := api.Head{Gen: 5, Blocks: 9}
	a, _ := pager.Header(h)
	clear(a)
	if b, e := pager.Header(h); e != api.OK || !bytes.Equal(b, written(h)) {
		t.Error("two answers of Header share memory")
	}
}

func TestNotMade(t *testing.T) {
	for _, p := range []*pager.Pager{nil, new(pager.Pager)} {
		for _, n := range []int{0, 2, 1, -1, math.MaxInt, math.MinInt} {
			_, a := p.Alloc()
			b, c := p.Read(n)
			f, g := p.Put(make([]byte, 5))
			h, i := p.Put(make([]byte, api.MaxStream+1))
			j, k, l := p.Get(n)
			for at, e := range []api.Errno{a, c, g, i, l, p.Claim(), p.Claim(n), p.Write(n), p.Write(n, 1, 2), p.Write(n, make([]byte, 5000)...), p.Free(n), p.Commit(n)} {
				if e != api.ErrMade {
					t.Errorf("call %d with %d of a pager that was not made: %d", at, n, e)
				}
			}
			if b != nil || f != 0 || h != 0 || j != nil || k != nil || p.Head() != (api.Head{}) || p.Used() != nil || p.Room() != 0 {
				t.Errorf("a pager that was not made has something: %v %d %d %v %v %v %v %d", b, f, h, j, k, p.Head(), p.Used(), p.Room())
			}
		}
	}
}

func TestExample(t *testing.T) {
	d := disk.New()
	p := opened(t, d)
	expectHead(t, p, 0, 0, 2)
	b := some(5000, 1)
	first, e := p.Put(b)
	if first != 3 || e != api.OK {
		t.Fatalf("Put of 5000 bytes = %d, %d", first, e)
	}
	expectUsed(t, p, 2, 3)
	expectHead(t, p, 0, 0, 2)
	must(t, p.Commit(3))
	expectHead(t, p, 1, 3, 4)
	want := slices.Concat(make([]byte, 4096), padded(sector(1, 3, 4), 4096), sealed(linked(0, b[4086:])), sealed(linked(2, b[:4086])))
	if !bytes.Equal(content(t, d), want) {
		t.Error("the file is unlike the chapter's")
	}
	must(t, p.Free(2))
	expectAlloc(t, p, 4)
	must(t, p.Commit(0))
	expectAlloc(t, p, 2)
}
