package disk_test

import (
	"bytes"
	"math/rand"
	"slices"
	"testing"

	"colonnade/api"
	"colonnade/disk"
)

// call is a call of the disk: w(rite), t(runcate), s(ync), c(rash), f(use), r(estart).
type call struct {
	name byte
	f    int
	n    int
	b    []byte
	keep []bool
}

func (c call) on(d *disk.Disk) api.Errno {
	switch c.name {
	case 'w':
		return d.Write(c.f, c.n, c.b...)
	case 't':
		return d.Truncate(c.f, c.n)
	case 's':
		return d.Sync(c.f)
	case 'c':
		return d.Crash(c.keep...)
	case 'f':
		return d.SetFuse(c.n, c.keep...)
	}
	return d.Restart()
}

// anyKeep is a script of what a crash keeps.
func anyKeep(random *rand.Rand) []bool {
	keep := make([]bool, random.Intn(12))
	for i := range keep {
		keep[i] = random.Intn(3) > 0
	}
	return keep
}

// anyBytes is some bytes, at times none.
func anyBytes(random *rand.Rand) []byte {
	n := random.Intn(6)
	if random.Intn(3) == 0 {
		n = random.Intn(1400)
	}
	b := make([]byte, n)
	for i := range b {
		b[i] = byte(1 + random.Intn(255))
	}
	return b
}

// anyChange is a Write, a Truncate or a Sync, at times one that is rejected.
func anyChange(random *rand.Rand) call {
	c := call{f: random.Intn(2)}
	if random.Intn(20) == 0 {
		c.f = random.Intn(5) - 2
	}
	switch random.Intn(5) {
	case 0:
		c.name = 's'
	case 1:
		c.name, c.n = 't', random.Intn(800)-4
	default:
		c.name, c.b = 'w', anyBytes(random)
		c.n = random.Intn(5)*256 + random.Intn(9) - 4
		if random.Intn(30) == 0 {
			c.n = api.MaxFile - len(c.b) + 1 + random.Intn(9)
		}
	}
	return c
}

// anyCall is any call.
func anyCall(random *rand.Rand) call {
	switch random.Intn(12) {
	case 0:
		return call{name: 'c', keep: anyKeep(random)}
	case 1:
		return call{name: 'f', n: random.Intn(8) - 1, keep: anyKeep(random)}
	case 2, 3:
		return call{name: 'r'}
	}
	return anyChange(random)
}

// part is a piece of a file; without bytes it is a truncation.
type part struct {
	f, at int
	b     []byte
}

// on returns what a file becomes by a piece, in memory of its own.
func (p part) on(old []byte) []byte {
	if p.b == nil {
		return slices.Clone(old[:min(p.at, len(old))])
	}
	b := make([]byte, max(len(old), p.at+len(p.b)))
	copy(b, old)
	for i, x := range p.b {
		b[p.at+i] = x
	}
	return b
}

// model is a disk by the chapter's words alone: what it contains is found anew from what is durable and all pieces.
type model struct {
	durable [2][]byte
	parts   []part
	down    bool
	calls   int64
	fuse    int
	keep    []bool
}

func (m *model) now(f int) []byte {
	b := m.durable[f]
	for _, p := range m.parts {
		if p.f == f {
			b = p.on(b)
		}
	}
	return b
}

func (m *model) crash(keep []bool) {
	for i, p := range m.parts {
		if i < len(keep) && keep[i] {
			m.durable[p.f] = p.on(m.durable[p.f])
		}
	}
	m.parts, m.fuse, m.down = nil, 0, true
}

func (m *model) sync(f int) {
	m.durable[f] = m.now(f)
	m.parts = slices.DeleteFunc(m.parts, func(p part) bool { return p.f == f })
}

func (m *model) write(f, at int, b []byte) {
	for i, x := range b {
		if i == 0 || (at+i)%512 == 0 {
			m.parts = append(m.parts, part{f: f, at: at + i})
		}
		last := &m.parts[len(m.parts)-1]
		last.b = append(last.b, x)
	}
}

// rejects returns the error by which a Write, a Truncate or a Sync is rejected.
func (m *model) rejects(c call) api.Errno {
	switch {
	case m.down:
		return api.ErrDown
	case c.f < 0 || c.f > 1:
		return api.ErrArg
	case c.name == 'w' && c.n < 0:
		return api.ErrArg
	case c.name == 'w' && len(c.b) > 0 && c.n+len(c.b) > 1<<22:
		return api.ErrFull
	case c.name == 't' && (c.n < 0 || c.n > len(m.now(c.f))):
		return api.ErrArg
	}
	return api.OK
}

// change does a Write, a Truncate or a Sync.
func (m *model) change(c call) api.Errno {
	if e := m.rejects(c); e != api.OK {
		return e
	}
	m.calls++
	m.fuse--
	switch {
	case c.name == 'w':
		m.write(c.f, c.n, c.b)
	case c.name == 't':
		m.parts = append(m.parts, part{f: c.f, at: c.n})
	case m.fuse != 0:
		m.sync(c.f)
	}
	if m.fuse == 0 {
		m.crash(m.keep)
		return api.ErrDown
	}
	return api.OK
}

func (m *model) call(c call) api.Errno {
	switch {
	case c.name == 'r':
		m.down = false
	case c.name == 'f' && c.n < 0:
		return api.ErrArg
	case c.name == 'f':
		m.fuse, m.keep = c.n, c.keep
	case c.name == 'c' && m.down:
		return api.ErrDown
	case c.name == 'c':
		m.crash(c.keep)
	default:
		return m.change(c)
	}
	return api.OK
}

// compare tells if a disk is not as the model is.
func compare(t *testing.T, d *disk.Disk, m *model, random *rand.Rand) {
	t.Helper()
	if d.Down() != m.down || d.Pending() != len(m.parts) || d.Calls() != m.calls {
		t.Fatalf("Down() = %v, Pending() = %d, Calls() = %d; want %v, %d, %d", d.Down(), d.Pending(), d.Calls(), m.down, len(m.parts), m.calls)
	}
	for _, f := range files {
		want := m.now(f)
		if m.down {
			if n, e := d.Size(f); n != 0 || e != api.ErrDown {
				t.Fatalf("Size(%d) = %d, %d", f, n, e)
			}
			continue
		}
		expect(t, d, f, want)
		at, n := random.Intn(1500), random.Intn(1500)
		from, to := min(at, len(want)), min(at+n, len(want))
		if b, e := d.Read(f, at, n); !bytes.Equal(b, want[from:to]) || e != api.OK {
			t.Fatalf("Read(%d, %d, %d) has %d bytes, %d; want %d", f, at, n, len(b), e, to-from)
		}
	}
}

// TestP42AsTheChapterSays makes any calls on a disk and, now and then, on a copy that takes its place.
func TestP42AsTheChapterSays(t *testing.T) {
	random := rand.New(rand.NewSource(42))
	for range 500 {
		d, m := disk.New(), new(model)
		for range 60 {
			c := anyCall(random)
			if random.Intn(10) == 0 {
				before := d
				d = d.Clone()
				anyCall(random).on(before)
			}
			if e, want := c.on(d), m.call(c); e != want {
				t.Fatalf("%c %d %d: %d; want %d", c.name, c.f, c.n, e, want)
			}
			compare(t, d, m, random)
		}
	}
}

func TestP42SameCallsSameDisk(t *testing.T) {
	random := rand.New(rand.NewSource(4))
	for range 100 {
		a, b := disk.New(), disk.New()
		for range 60 {
			c := anyCall(random)
			if x, y := c.on(a), c.on(b); x != y || !disk.Same(a, b) || a.Pending() != b.Pending() || a.Down() != b.Down() || a.Calls() != b.Calls() {
				t.Fatalf("%c %d %d: %d on one disk, %d on the other", c.name, c.f, c.n, x, y)
			}
		}
	}
}

// TestP44Durable remembers what a file contained at its last Sync, and where it was changed since.
func TestP44Durable(t *testing.T) {
	random := rand.New(rand.NewSource(44))
	for range 1500 {
		d := disk.New()
		var synced [2][]byte
		var touched [2]map[int]bool
		for range random.Intn(40) {
			c := anyChange(random)
			if c.on(d) != api.OK {
				continue
			}
			from, to := c.n, c.n+len(c.b)
			switch c.name {
			case 's':
				synced[c.f], touched[c.f] = content(t, d, c.f), map[int]bool{}
				continue
			case 't':
				to = max(from, len(synced[c.f]))
			}
			for i := from; i < to && touched[c.f] != nil; i++ {
				touched[c.f][i] = true
			}
		}
		after := crashed(t, d, anyKeep(random)...)
		for _, f := range files {
			got := content(t, after, f)
			for i, x := range synced[f] {
				if !touched[f][i] && (i >= len(got) || got[i] != x) {
					t.Fatalf("byte %d of file %d was durable, and is lost", i, f)
				}
			}
		}
	}
}

// TestP45WholeSectors writes bytes that are all greater than what was there, and holds each sector's part against both.
func TestP45WholeSectors(t *testing.T) {
	random := rand.New(rand.NewSource(45))
	for range 1500 {
		f := random.Intn(2)
		old := bytes.Repeat([]byte{1}, random.Intn(3000))
		at, now := random.Intn(2000), bytes.Repeat([]byte{2}, random.Intn(3000))
		d := written(t, f, old)
		keep := anyKeep(random)
		if random.Intn(2) == 0 {
			must(t, d.SetFuse(1, keep...))
			expectErr(t, "Write with a fuse", d.Write(f, at, now...), api.ErrDown)
		} else {
			must(t, d.Write(f, at, now...))
			must(t, d.Crash(keep...))
		}
		must(t, d.Restart())
		got := content(t, d, f)
		got = append(got, make([]byte, 6000-len(got))...)
		was := append(old, make([]byte, 6000-len(old))...)
		for from, i := at, 0; from < at+len(now); i++ {
			to := min(at+len(now), (from/512+1)*512)
			want := was[from:to]
			if i < len(keep) && keep[i] {
				want = now[from-at : to-at]
			}
			if !bytes.Equal(got[from:to], want) {
				t.Fatalf("of the part from %d to %d, %.20v is present; want %.20v", from, to, got[from:to], want)
			}
			from = to
		}
		if !bytes.Equal(got[:at], was[:at]) || !bytes.Equal(got[at+len(now):], was[at+len(now):]) {
			t.Fatal("what was not written has changed")
		}
	}
}

// TestP46Fuse holds a disk with a fuse at each call against one whose power fails by a Crash.
func TestP46Fuse(t *testing.T) {
	random := rand.New(rand.NewSource(46))
	for range 60 {
		var script []call
		probe := disk.New()
		for range 25 {
			if c := anyChange(random); c.on(probe) == api.OK {
				script = append(script, c)
			}
		}
		for n := 1; n <= len(script); n++ {
			keep := anyKeep(random)
			a, b := disk.New(), disk.New()
			must(t, a.SetFuse(n, keep...))
			for _, c := range script[:n-1] {
				must(t, c.on(a))
				must(t, c.on(b))
			}
			last := script[n-1]
			expectErr(t, "the call that the fuse waits for", last.on(a), api.ErrDown)
			if last.name != 's' {
				must(t, last.on(b))
			}
			must(t, b.Crash(keep...))
			if !disk.Same(a, b) || a.Down() != b.Down() || a.Pending() != b.Pending() || a.Calls() != int64(n) {
				t.Fatalf("a fuse at call %d (%c) is not as a crash behind it", n, last.name)
			}
			must(t, a.Restart())
			must(t, b.Restart())
			for _, c := range script {
				if x, y := c.on(a), c.on(b); x != y || !disk.Same(a, b) || a.Pending() != b.Pending() {
					t.Fatalf("after a fuse at call %d (%c): %d; want %d", n, last.name, x, y)
				}
			}
		}
	}
}
