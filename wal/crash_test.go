package wal_test

import (
	"math/rand"
	"slices"
	"testing"

	"colonnade/api"
	"colonnade/disk"
	"colonnade/wal"
)

// keeps are scripts of what is kept of at most n pieces: nothing, all, one, all but one, any.
func keeps(random *rand.Rand, n int) [][]bool {
	l := [][]bool{nil, slices.Repeat([]bool{true}, n)}
	for range 3 {
		one, but, any := make([]bool, n), slices.Repeat([]bool{true}, n), make([]bool, n)
		i := random.Intn(n)
		one[i], but[i] = true, false
		for i := range any {
			any[i] = random.Intn(2) == 0
		}
		l = append(l, one, but, any)
	}
	return l
}

// story is commits and resets one after the other, until the power fails.
type story struct {
	d    *disk.Disk
	l    *wal.Log
	gen  int64
	done []commit // that returned OK
	next commit   // that which is in progress, nil if none is
}

// begin opens the log of a disk.
func begin(t *testing.T, d *disk.Disk, gen int64, want ...commit) *story {
	t.Helper()
	s := &story{d: d, l: opened(t, d, gen), gen: gen, done: want}
	expectLog(t, s.l, gen, want...)
	return s
}

// commit commits records of a length that hangs on the seed.
func (s *story) commit(seed int) api.Errno {
	s.next = commit{some(seed*173%1700, seed), make([]byte, seed%40)}
	e := s.l.Commit(s.next...)
	if e == api.OK {
		s.done, s.next = append(s.done, s.next), nil
	}
	return e
}

// run goes on for some commits, or until the power fails.
func (s *story) run(t *testing.T, from, to int) api.Errno {
	t.Helper()
	for seed := from; seed < to; seed++ {
		e := s.commit(seed)
		expectLog(t, s.l, s.gen, s.done...)
		if e != api.OK {
			return e
		}
	}
	return api.OK
}

// reopen is the story as it goes on with what the disk has: all that is done, and perhaps what is in progress.
func (s *story) reopen(t *testing.T) *story {
	t.Helper()
	must(t, s.d.Restart())
	want := slices.Clone(s.done)
	l := opened(t, s.d, s.gen)
	if s.next != nil && l.Many() > len(want) {
		want = append(want, s.next)
	}
	expectLog(t, l, s.gen, want...)
	expectFile(t, s.d, fileOf(s.gen, want...))
	return begin(t, s.d, s.gen, want...)
}

func TestP65CrashAtEachCall(t *testing.T) {
	const commits = 5
	random := rand.New(rand.NewSource(65))
	for at := 1; at <= 4*commits; at++ {
		for _, keep := range keeps(random, 5) {
			s := begin(t, disk.New(), 4)
			must(t, s.d.SetFuse(at, keep...))
			expectErr(t, "commits with a fuse", s.run(t, 1, 1+commits), api.ErrDown)
			if len(s.done) != (at-1)/4 {
				t.Fatalf("%d commits returned OK", len(s.done))
			}
			s = s.reopen(t)
			must(t, s.run(t, 20, 23))
			must(t, s.d.Crash())
			s.reopen(t)
		}
	}
}

func TestP65WhichCommitsThereAre(t *testing.T) {
	data := func(kept bool) []bool { return slices.Repeat([]bool{kept}, 4) }
	for at := 1; at <= 4; at++ {
		for _, kept := range []bool{false, true} {
			s := begin(t, disk.New(), 4)
			must(t, s.run(t, 1, 3))
			must(t, s.d.SetFuse(at, data(kept)...))
			expectErr(t, "a commit with a fuse", s.commit(7), api.ErrDown)
			want := 2
			if kept && at >= 3 {
				want = 3
			}
			if s = s.reopen(t); len(s.done) != want {
				t.Errorf("power fails at call %d: %d commits; want %d", at, len(s.done), want)
			}
		}
	}
}

func TestP65CrashWhileItIsOpened(t *testing.T) {
	random := rand.New(rand.NewSource(650))
	for at := 1; at <= 3; at++ {
		for _, keep := range keeps(random, 4) {
			for second := 1; second <= 2; second++ {
				for _, cut := range []bool{false, true} {
					s := begin(t, disk.New(), 4)
					must(t, s.run(t, 1, 3))
					must(t, s.d.SetFuse(at, keep...))
					expectErr(t, "a commit with a fuse", s.commit(8), api.ErrDown)
					must(t, s.d.Restart())
					must(t, s.d.SetFuse(second, cut))
					if l, e := wal.Open(s.d, 4); e != api.OK && (e != api.ErrDown || l != nil) {
						t.Fatalf("Open with a fuse: %v, %d", l, e)
					}
					must(t, s.d.SetFuse(0))
					s = s.reopen(t)
					must(t, s.run(t, 3, 6))
					must(t, s.d.Crash())
					s.reopen(t)
				}
			}
		}
	}
}

func TestP65CrashesOneAfterTheOther(t *testing.T) {
	random := rand.New(rand.NewSource(651))
	for range 20 {
		s := begin(t, disk.New(), 4)
		for seed := range 15 {
			must(t, s.d.SetFuse(1+random.Intn(15), keeps(random, 5)[random.Intn(11)]...))
			if s.run(t, 10*seed, 10*seed+3) == api.OK {
				must(t, s.d.Crash())
			}
			s = s.reopen(t)
		}
		if len(s.done) == 0 {
			t.Error("nothing was committed")
		}
	}
}

func TestP65CrashAtAReset(t *testing.T) {
	for at := 1; at <= 6; at++ {
		for _, keep := range [][]bool{nil, {true}, {true, true}, {false, true}} {
			for _, gen := range []int64{4, 5} {
				s := begin(t, disk.New(), 4)
				must(t, s.run(t, 1, 4))
				must(t, s.d.SetFuse(at, keep...))
				e := s.l.Reset(gen)
				if at <= 2 {
					expectErr(t, "Reset with a fuse", e, api.ErrDown)
					expectLog(t, s.l, 4, s.done...)
					must(t, s.d.Restart())
					if len(keep) > 0 && keep[0] {
						s.done = nil
					}
					begin(t, s.d, 4, s.done...)
					continue
				}
				must(t, e)
				s.gen, s.done = gen, nil
				expectErr(t, "a commit with a fuse", s.commit(30), api.ErrDown)
				s.reopen(t)
			}
		}
	}
}

func TestP65OtherPiecesAreNoneOfTheLog(t *testing.T) {
	s := begin(t, disk.New(), 4)
	must(t, s.run(t, 1, 4))
	must(t, s.d.Write(api.Main, 0, some(2000, 1)...))
	must(t, s.d.Truncate(api.Main, 0))
	must(t, s.d.Crash(true, false, true, true, true))
	s.reopen(t)
}

func TestTheSameCallsHaveTheSameResults(t *testing.T) {
	var files [][]byte
	for range 2 {
		s := begin(t, disk.New(), 4)
		must(t, s.run(t, 1, 9))
		must(t, s.l.Reset(5))
		s.gen, s.done = 5, nil
		must(t, s.run(t, 9, 14))
		files = append(files, content(t, s.d))
	}
	if !slices.Equal(files[0], files[1]) {
		t.Error("the same calls have written other bytes")
	}
}
