package pager_test

import (
	"bytes"
	"math/rand"
	"slices"
	"testing"

	"colonnade/api"
	"colonnade/disk"
	"colonnade/pager"
)

// version is a state of the file: its head, the two streams that the root's stream names, and the blocks of all three.
type version struct {
	head   api.Head
	firsts [2]int
	texts  [2][]byte
	blocks [3][]int
}

// root is the root's stream: where the other two begin, and so many bytes that it has two blocks.
func (v version) root() []byte {
	b := some(pieceSize+int(v.head.Gen), int(v.head.Gen))
	for i, n := range v.firsts {
		b[2*i], b[2*i+1] = byte(n), byte(n>>8)
	}
	return b
}

// story is commits one after the other, until the power fails.
type story struct {
	d    *disk.Disk
	p    *pager.Pager
	now  version // of the last commit that returned OK
	next version // that of the commit that was called since then, if there is one
}

// put puts a stream and gives its blocks, and frees those that it replaces.
func (s *story) put(b []byte, old []int) (int, []int, api.Errno) {
	first, e := s.p.Put(b)
	if e != api.OK {
		return 0, nil, e
	}
	_, blocks, e := s.p.Get(first)
	for _, n := range old {
		if e == api.OK {
			e = s.p.Free(n)
		}
	}
	return first, blocks, e
}

// step replaces one of both streams, and the root.
func (s *story) step(seed int) api.Errno {
	v := s.now
	v.head.Gen++
	i := seed % 2
	v.texts[i] = some(seed*1777%9000, seed)
	waste, e := s.p.Alloc()
	if e != api.OK {
		return e
	}
	if v.firsts[i], v.blocks[i], e = s.put(v.texts[i], v.blocks[i]); e != api.OK {
		return e
	}
	if e = s.p.Write(waste, 1); e != api.OK {
		return e
	}
	if e = s.p.Free(waste); e != api.OK {
		return e
	}
	if v.head.Root, v.blocks[2], e = s.put(v.root(), v.blocks[2]); e != api.OK {
		return e
	}
	v.head.Blocks = max(s.p.Head().Blocks, slices.Max(s.p.Used())+1)
	s.next = v
	if e = s.p.Commit(v.head.Root); e == api.OK {
		s.now, s.next = v, version{}
	}
	return e
}

// found is the version that is read from a disk.
func found(t *testing.T, p *pager.Pager) version {
	t.Helper()
	v := version{head: p.Head()}
	if v.head.Root == 0 {
		return v
	}
	b, l, e := p.Get(v.head.Root)
	must(t, e)
	v.blocks[2] = l
	for i := range v.firsts {
		v.firsts[i] = int(b[2*i]) + int(b[2*i+1])<<8
		if v.firsts[i] != 0 {
			v.texts[i], v.blocks[i], e = p.Get(v.firsts[i])
			must(t, e)
		}
	}
	if !bytes.Equal(b, v.root()) {
		t.Fatal("the root's stream is altered")
	}
	return v
}

// sameVersion reports whether two versions are the same, byte by byte.
func sameVersion(a, b version) bool {
	for i := range a.texts {
		if !bytes.Equal(a.texts[i], b.texts[i]) {
			return false
		}
	}
	for i := range a.blocks {
		if !slices.Equal(a.blocks[i], b.blocks[i]) {
			return false
		}
	}
	return a.head.Gen == b.head.Gen && a.head.Root == b.head.Root && a.firsts == b.firsts
}

// reopen is the story as it goes on with what the disk has, which is to be the last version or the next one.
func (s *story) reopen(t *testing.T) *story {
	t.Helper()
	must(t, s.d.Restart())
	v := found(t, opened(t, s.d))
	if !sameVersion(v, s.now) && !(s.next.head.Gen > 0 && sameVersion(v, s.next)) {
		t.Fatalf("after a crash the head is %v; the last one was %v, that in progress %v", v.head, s.now.head, s.next.head)
	}
	p := opened(t, s.d)
	if again := found(t, p); !sameVersion(v, again) || again.head != v.head {
		t.Fatalf("opened again, the head is %v instead of %v", again.head, v.head)
	}
	must(t, p.Claim(slices.Concat(v.blocks[:]...)...))
	return &story{d: s.d, p: p, now: v}
}

// run goes on for some steps, or until the power fails.
func (s *story) run(t *testing.T, from, to int) api.Errno {
	t.Helper()
	for seed := from; seed < to; seed++ {
		if e := s.step(seed); e != api.OK {
			return e
		}
		if v := found(t, s.p); !sameVersion(v, s.now) || v.head != s.now.head {
			t.Fatalf("after a commit the head is %v; want %v", v.head, s.now.head)
		}
	}
	return api.OK
}

// keeps are scripts of what is kept of at most n pieces: nothing, all, one, all but one, any.
func keeps(random *rand.Rand, n int) [][]bool {
	l := [][]bool{nil, all}
	for range 3 {
		one, but, any := make([]bool, n), slices.Repeat([]bool{true}, n), make([]bool, n)
		i := random.Intn(n)
		one[i], but[i] = true, false
		for i := range any {
			any[i] = random.Intn(2) == 0
		}
		l = append(l, one, but, any)
	}
	return l
}

func TestP57CrashAtEachCall(t *testing.T) {
	const steps = 5
	whole := &story{d: disk.New()}
	whole.p = opened(t, whole.d)
	must(t, whole.run(t, 1, 1+steps))
	random := rand.New(rand.NewSource(57))
	for at := 1; at <= int(whole.d.Calls()); at++ {
		for _, keep := range keeps(random, 90) {
			s := &story{d: disk.New()}
			s.p = opened(t, s.d)
			must(t, s.d.SetFuse(at, keep...))
			expectErr(t, "a story with a fuse", s.run(t, 1, 1+steps), api.ErrDown)
			s = s.reopen(t)
			must(t, s.run(t, 20, 22))
			must(t, s.d.Crash())
			s.reopen(t)
		}
	}
}

func TestP57CrashesOneAfterTheOther(t *testing.T) {
	random := rand.New(rand.NewSource(570))
	for range 10 {
		s := &story{d: disk.New()}
		s.p = opened(t, s.d)
		for seed := range 12 {
			must(t, s.d.SetFuse(1+random.Intn(40), keeps(random, 90)[random.Intn(11)]...))
			if s.run(t, 10*seed, 10*seed+4) == api.OK {
				must(t, s.d.Crash())
			}
			s = s.reopen(t)
		}
		if s.now.head.Gen == 0 {
			t.Error("nothing was committed")
		}
	}
}

func TestP57WhichStateItIs(t *testing.T) {
	for at := 1; at <= 3; at++ {
		header := func(kept bool) []bool { return []bool{kept, !kept, !kept} }
		for _, x := range []struct {
			keep []bool
			gen  int64
		}{{nil, 1}, {header(false), 1}, {header(true), min(2, int64(at))}, {all, min(2, int64(at))}} {
			d := disk.New()
			p := opened(t, d)
			_, e := p.Put(some(10, 1))
			must(t, e)
			must(t, p.Commit(2))
			_, e = p.Put(some(10, 2))
			must(t, e)
			must(t, p.Free(2))
			must(t, d.SetFuse(at, x.keep...))
			expectErr(t, "Commit with a fuse", p.Commit(3), api.ErrDown)
			must(t, d.Restart())
			p = opened(t, d)
			expectHead(t, p, x.gen, int(x.gen)+1, int(x.gen)+2)
			expectGet(t, p, int(x.gen)+1, some(10, int(x.gen)), int(x.gen)+1)
		}
	}
}

func TestP57WhatIsCommittedIsNeverWritten(t *testing.T) {
	s := &story{d: disk.New()}
	s.p = opened(t, s.d)
	must(t, s.run(t, 1, 4))
	before := content(t, s.d)
	l := slices.Concat(s.now.blocks[:]...)
	for _, n := range l {
		must(t, s.p.Free(n))
		expectErr(t, "Write of a block that is freed", s.p.Write(n, 1), api.ErrKept)
	}
	for s.p.Room() > 0 {
		n, e := s.p.Alloc()
		must(t, e)
		if n < 20 {
			must(t, s.p.Write(n, some(4090, 9)...))
		}
	}
	after := content(t, s.d)
	for _, n := range l {
		if !bytes.Equal(after[n*api.Block:(n+1)*api.Block], before[n*api.Block:(n+1)*api.Block]) {
			t.Errorf("block %d is altered before the next commit", n)
		}
	}
	must(t, s.d.Crash(all...))
	s.reopen(t)
}
