package pager_test

import (
	"bytes"
	"encoding/binary"
	"math/rand"
	"slices"
	"testing"

	"colonnade/api"
	"colonnade/disk"
	"colonnade/pager"
)

// model is a pager by the chapter's words alone, with the data that each block of its disk has. No Write of it is lost.
type model struct {
	down   bool
	head   api.Head
	blocks int
	used   []int // in use
	freed  []int // those of them that were freed
	fresh  []int
	data   map[int][]byte
}

func (m *model) exists(n int) bool {
	return n >= 2 && n < m.blocks
}

// without is a list without one number.
func without(l []int, n int) []int {
	return slices.DeleteFunc(slices.Clone(l), func(x int) bool { return x == n })
}

// free are the blocks that are.
func (m *model) free() []int {
	return slices.DeleteFunc(between(2, m.blocks), func(n int) bool { return slices.Contains(m.used, n) || slices.Contains(m.fresh, n) })
}

func (m *model) room() int {
	return len(m.free()) + api.MaxBlocks - m.blocks
}

func (m *model) open() api.Errno {
	if m.down {
		return api.ErrDown
	}
	m.blocks = m.head.Blocks
	m.used, m.freed, m.fresh = between(2, m.blocks), nil, nil
	return api.OK
}

func (m *model) claim(l []int) api.Errno {
	for i, n := range l {
		if !m.exists(n) || slices.Contains(l[:i], n) {
			return api.ErrArg
		}
	}
	if len(m.fresh) > 0 {
		return api.ErrArg
	}
	m.used, m.freed = slices.Clone(l), nil
	return api.OK
}

func (m *model) alloc() (int, api.Errno) {
	n := m.blocks
	if l := m.free(); len(l) > 0 {
		n = l[0]
	} else if n == api.MaxBlocks {
		return 0, api.ErrFull
	} else {
		m.blocks++
	}
	m.fresh = append(m.fresh, n)
	return n, api.OK
}

func (m *model) write(n int, b []byte) api.Errno {
	switch {
	case !m.exists(n):
		return api.ErrArg
	case !slices.Contains(m.fresh, n):
		return api.ErrKept
	case len(b) > 4090:
		return api.ErrLong
	case m.down:
		return api.ErrDown
	}
	m.data[n] = slices.Clone(b)
	return api.OK
}

func (m *model) read(n int) ([]byte, api.Errno) {
	if !m.exists(n) {
		return nil, api.ErrArg
	}
	if m.down {
		return nil, api.ErrDown
	}
	if b, ok := m.data[n]; ok {
		return b, api.OK
	}
	return nil, api.ErrCorrupt
}

func (m *model) release(n int) api.Errno {
	switch {
	case slices.Contains(m.fresh, n):
		m.fresh = without(m.fresh, n)
	case slices.Contains(m.used, n) && !slices.Contains(m.freed, n):
		m.freed = append(m.freed, n)
	default:
		return api.ErrArg
	}
	return api.OK
}

func (m *model) put(b []byte) (int, api.Errno) {
	parts := pieces(b)
	if len(b) > api.MaxStream {
		return 0, api.ErrLong
	}
	if len(parts) > m.room() {
		return 0, api.ErrFull
	}
	next := 0
	for len(parts) > 0 {
		n, _ := m.alloc()
		if e := m.write(n, linked(uint32(next), parts[len(parts)-1])); e != api.OK {
			return 0, e
		}
		next, parts = n, parts[:len(parts)-1]
	}
	return next, api.OK
}

func (m *model) get(n int) ([]byte, []int, api.Errno) {
	var b []byte
	var l []int
	for {
		data, e := m.read(n)
		if e != api.OK {
			return nil, nil, e
		}
		l = append(l, n)
		if len(data) < 4 {
			return nil, nil, api.ErrCorrupt
		}
		b = append(b, data[4:]...)
		n = int(binary.LittleEndian.Uint32(data))
		if len(b) > api.MaxStream || slices.Contains(l, n) || n != 0 && !m.exists(n) {
			return nil, nil, api.ErrCorrupt
		}
		if n == 0 {
			return b, l, api.OK
		}
	}
}

func (m *model) commit(root int) api.Errno {
	if root != 0 && !m.exists(root) {
		return api.ErrArg
	}
	if m.down {
		return api.ErrDown
	}
	m.head = api.Head{Gen: m.head.Gen + 1, Root: root, Blocks: m.blocks}
	m.used = append(m.used, m.fresh...)
	for _, n := range m.freed {
		m.used = without(m.used, n)
	}
	m.fresh, m.freed = nil, nil
	return api.OK
}

// anyBlock is a number of a block, at times of none.
func (m *model) anyBlock(random *rand.Rand) int {
	if random.Intn(12) == 0 {
		l := noBlocks(m.blocks)
		return l[random.Intn(len(l))]
	}
	if len(m.fresh) > 0 && random.Intn(2) == 0 {
		return m.fresh[random.Intn(len(m.fresh))]
	}
	return 2 + random.Intn(m.blocks)
}

// anyData is what is to be written into a block: at times too long, at times one of a stream.
func (m *model) anyData(random *rand.Rand) []byte {
	switch random.Intn(6) {
	case 0:
		return some(random.Intn(5), random.Intn(99))
	case 1:
		return some(4088+random.Intn(5), random.Intn(99))
	}
	return linked(uint32(m.anyBlock(random)), some(random.Intn(300), random.Intn(99)))
}

// anyList is blocks to be claimed.
func (m *model) anyList(random *rand.Rand) []int {
	var l []int
	for range random.Intn(m.blocks) {
		if n := m.anyBlock(random); random.Intn(20) == 0 || m.exists(n) && !slices.Contains(l, n) {
			l = append(l, n)
		}
	}
	return l
}

// twins are a pager and its model, which are called alike.
type twins struct {
	t *testing.T
	d *disk.Disk
	p *pager.Pager
	m *model
}

// alike tells if two answers differ.
func (x *twins) alike(name string, n, want int, e, wantErr api.Errno) {
	x.t.Helper()
	if n != want || e != wantErr {
		x.t.Fatalf("%s = %d, %d; want %d, %d", name, n, e, want, wantErr)
	}
}

// call makes any call of a pager.
func (x *twins) call(random *rand.Rand) {
	x.t.Helper()
	n := x.m.anyBlock(random)
	switch random.Intn(8) {
	case 0:
		l := x.m.anyList(random)
		x.alike("Claim", 0, 0, x.p.Claim(l...), x.m.claim(l))
	case 1:
		a, e := x.p.Alloc()
		b, f := x.m.alloc()
		x.alike("Alloc", a, b, e, f)
	case 2:
		b := x.m.anyData(random)
		x.alike("Write", n, n, x.p.Write(n, b...), x.m.write(n, b))
	case 3:
		x.alike("Free", n, n, x.p.Free(n), x.m.release(n))
	case 4:
		b := some(random.Intn(random.Intn(20000)+1), random.Intn(99))
		c, e := x.p.Put(b)
		d, f := x.m.put(b)
		x.alike("Put", c, d, e, f)
	case 5:
		b, k, e := x.p.Get(n)
		c, l, f := x.m.get(n)
		if !bytes.Equal(b, c) || !slices.Equal(k, l) {
			x.t.Fatalf("Get(%d) has %d bytes, %v; want %d, %v", n, len(b), k, len(c), l)
		}
		x.alike("Get", n, n, e, f)
	case 6:
		x.alike("Commit", n, n, x.p.Commit(n), x.m.commit(n))
	default:
		x.power(random)
	}
}

// power takes the power away or gives it back, and opens the pager again.
func (x *twins) power(random *rand.Rand) {
	x.t.Helper()
	switch {
	case x.m.down:
		must(x.t, x.d.Restart())
		x.m.down = false
	case random.Intn(3) == 0:
		must(x.t, x.d.Crash(all...))
		x.m.down = true
	}
	if random.Intn(4) == 0 {
		p, e := pager.Open(x.d)
		x.alike("Open", 0, 0, e, x.m.open())
		if e == api.OK {
			x.p = p
		}
	}
}

// compare tells if the pager has other blocks than its model, or other data in one of them.
func (x *twins) compare(random *rand.Rand) {
	x.t.Helper()
	if x.p.Head() != x.m.head {
		x.t.Fatalf("Head() = %v; want %v", x.p.Head(), x.m.head)
	}
	expectUsed(x.t, x.p, slices.Sorted(slices.Values(append(slices.Clone(x.m.used), x.m.fresh...)))...)
	if x.p.Room() != x.m.room() {
		x.t.Fatalf("Room() = %d; want %d", x.p.Room(), x.m.room())
	}
	n := x.m.anyBlock(random)
	b, e := x.p.Read(n)
	c, f := x.m.read(n)
	if !bytes.Equal(b, c) {
		x.t.Fatalf("Read(%d) has %d bytes; want %d", n, len(b), len(c))
	}
	x.alike("Read", n, n, e, f)
}

func TestAnyCalls(t *testing.T) {
	random := rand.New(rand.NewSource(5))
	for range 60 {
		x := &twins{t: t, d: disk.New(), m: &model{head: api.Head{Blocks: 2}, data: map[int][]byte{}}}
		x.p = opened(t, x.d)
		must(t, x.m.open())
		for range 200 {
			x.call(random)
			x.compare(random)
		}
	}
}

func TestTheSameCallsHaveTheSameResults(t *testing.T) {
	var files [][]byte
	for range 2 {
		random := rand.New(rand.NewSource(6))
		x := &twins{t: t, d: disk.New(), m: &model{head: api.Head{Blocks: 2}, data: map[int][]byte{}}}
		x.p = opened(t, x.d)
		must(t, x.m.open())
		for range 300 {
			x.call(random)
		}
		must(t, x.d.Restart())
		files = append(files, content(t, x.d))
	}
	if !bytes.Equal(files[0], files[1]) {
		t.Error("the same calls have written other bytes")
	}
}
