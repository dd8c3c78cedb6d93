package wal_test

import (
	"bytes"
	"math/rand"
	"slices"
	"testing"

	"colonnade/api"
	"colonnade/disk"
	"colonnade/wal"
)

// expectNoLog tells if Open answers anything but an error.
func expectNoLog(t *testing.T, d *disk.Disk, gen int64, want api.Errno) {
	t.Helper()
	if l, e := wal.Open(d, gen); l != nil || e != want {
		t.Errorf("Open of generation %d = %v, %d; want %d", gen, l, e, want)
	}
}

func TestP62OpenErrors(t *testing.T) {
	for _, d := range []*disk.Disk{nil, {}} {
		for _, gen := range append(inside(), outside()...) {
			expectNoLog(t, d, gen, api.ErrMade)
		}
	}
	d := laid(t, fileOf(1, plain()...))
	must(t, d.Write(api.Log, 0, 0))
	for _, gen := range outside() {
		expectNoLog(t, d, gen, api.ErrArg)
	}
	must(t, d.Crash())
	for _, gen := range outside() {
		expectNoLog(t, d, gen, api.ErrArg)
	}
	for _, gen := range inside() {
		expectNoLog(t, d, gen, api.ErrDown)
	}
	must(t, d.Restart())
	expectLog(t, opened(t, d, 1), 1, plain()...)
}

func TestP62Open(t *testing.T) {
	for _, gen := range inside() {
		for n := range len(plain()) + 1 {
			d := laid(t, fileOf(gen, plain()[:n]...))
			calls := d.Calls()
			expectLog(t, opened(t, d, gen), gen, plain()[:n]...)
			expectFile(t, d, fileOf(gen, plain()[:n]...))
			if d.Calls() != calls || d.Pending() != 0 {
				t.Error("Open has written what it need not")
			}
		}
	}
}

func TestP62OpenThenCommit(t *testing.T) {
	d := laid(t, fileOf(1, plain()...))
	l := opened(t, d, 1)
	must(t, l.Commit([]byte("next")))
	expectLog(t, l, 1, append(plain(), records("next"))...)
	expectFile(t, d, fileOf(1, append(plain(), records("next"))...))
	again := opened(t, d, 1)
	must(t, again.Commit([]byte("last")))
	expectLog(t, again, 1, append(plain(), records("next"), records("last"))...)
	expectFile(t, d, fileOf(1, append(plain(), records("next"), records("last"))...))
}

func TestP62ManyCommits(t *testing.T) {
	var l []commit
	for i := range 500 {
		l = append(l, commit{some(i%7, i)})
	}
	d := laid(t, fileOf(9, l...))
	log := opened(t, d, 9)
	expectLog(t, log, 9, l...)
	must(t, log.Commit([]byte("a")))
	expectFile(t, d, fileOf(9, append(l, records("a"))...))
}

// after are what may follow two commits in a file of the generation 6 without being the next one.
func after() map[string][]byte {
	good := written(6, 2, commit{some(600, 1), nil})
	mark, data := good[:512], good[512:]
	of := func(data []byte) []byte { return append(markOf(6, 2, data), whole(data)...) }
	at := func(i int) []byte {
		b := slices.Clone(good)
		b[i]++
		return b
	}
	return map[string][]byte{
		"one byte":                         {1},
		"a zero":                           {0},
		"zeros":                            make([]byte, 2048),
		"ones":                             slices.Repeat([]byte{255}, 2048),
		"a mark alone":                     mark,
		"a part of a mark":                 mark[:511],
		"a commit of which a byte lacks":   good[:len(good)-1],
		"a commit without its last sector": good[:len(good)-512],
		"data without a mark":              append(make([]byte, 512), data...),
		"another generation":               written(5, 2, plain()[0]),
		"the same generation again":        fileOf(6, plain()[0], plain()[1]),
		"the number before":                written(6, 1, plain()[0]),
		"the number behind":                written(6, 3, plain()[0]),
		"a mark that is altered":           at(300),
		"data that is altered":             at(512 + 300),
		"the end of the data altered":      at(512 + len(dataOf(commit{some(600, 1), nil})) - 1),
		"the padding altered":              at(512 + len(dataOf(commit{some(600, 1), nil}))),
		"the end of the padding altered":   at(len(good) - 1),
		"a wrong checksum":                 append(sector(6, 2, 5, 0), whole(dataOf(records("ab")))...),
		"a wrong length":                   append(sector(6, 2, 6, int64(sum(dataOf(records("ab"))))), whole(dataOf(records("ab")))...),
		"no data":                          of(nil),
		"no data, and zeros":               append(of(nil), make([]byte, 512)...),
		"no records":                       of(counted(0, nil)),
		"fewer than no records":            of(counted(-1, nil)),
		"more records than there are":      of(counted(2, records("a"))),
		"fewer records than there are":     of(counted(1, records("a", "b"))),
		"a record that does not end":       of([]byte{129, 'a', 0}),
		"a record with 0 2":                of([]byte{129, 'a', 0, 2, 0, 0}),
		"a byte behind the records":        of(append(dataOf(records("a")), 0)),
		"a number longer than it may be":   of([]byte{248, 0, 'a', 0, 0}),
		"half a number":                    of([]byte{249, 1}),
		"too many records":                 of(counted(api.MaxRecords+1, slices.Repeat(records(""), api.MaxRecords+1))),
		"a great number of records":        of(counted(1<<40, records("a"))),
		"too many bytes":                   append(sector(6, 2, api.MaxCommit+1, int64(sum(dataOf(sized(api.MaxCommit + 1)[0])))), whole(dataOf(sized(api.MaxCommit + 1)[0]))...),
		"a negative length":                append(sector(6, 2, -1, 0), make([]byte, 512)...),
	}
}

func TestP62WhereTheLogEnds(t *testing.T) {
	two := []commit{records("a"), {some(700, 1)}}
	before := fileOf(6, two...)
	for name, tail := range after() {
		for _, more := range [][]byte{nil, written(6, 3, records("c")), written(6, 2, records("c"))} {
			if len(tail)%512 != 0 && len(more) > 0 {
				continue // what follows is to begin at a sector
			}
			d := laid(t, slices.Concat(before, tail, more))
			calls := d.Calls()
			l, e := wal.Open(d, 6)
			if e != api.OK || !same(all(l.Commits()), two) || l.End() != len(before) {
				t.Errorf("%s: Open answers %d", name, e)
				continue
			}
			expectFile(t, d, before)
			if d.Calls() != calls+2 || d.Pending() != 0 {
				t.Errorf("%s: %d calls, %d pieces", name, d.Calls()-calls, d.Pending())
			}
			must(t, l.Commit([]byte("d")))
			expectLog(t, opened(t, d, 6), 6, append(slices.Clone(two), records("d"))...)
		}
	}
}

func TestP62TheGreatestCommits(t *testing.T) {
	l := append(sized(api.MaxCommit), slices.Repeat(records(""), api.MaxRecords))
	expectLog(t, opened(t, laid(t, fileOf(1, l...)), 1), 1, l...)
}

func TestP62AFullFile(t *testing.T) {
	d, _, commits := filled(t, 0)
	expectLog(t, opened(t, d, 3), 3, commits...)
	b := content(t, d)
	last := len(b) - len(written(3, int64(len(commits)-1), commits[len(commits)-1]))
	b[last]++
	l := opened(t, laid(t, b), 3)
	expectLog(t, l, 3, commits[:len(commits)-1]...)
	must(t, l.Commit(commits[len(commits)-1]...))
	expectLog(t, l, 3, commits...)
}

func TestP62TheFirstCommitDamaged(t *testing.T) {
	for i := range 1024 {
		b := fileOf(1, records("ab"), records("cd"))
		b[i] ^= 4
		d := laid(t, b)
		expectLog(t, opened(t, d, 1), 1)
		expectFile(t, d, nil)
	}
}

func TestP62PowerFailsWhenItIsCut(t *testing.T) {
	good := fileOf(1, plain()[:2]...)
	long := append(slices.Clone(good), some(700, 1)...)
	for at := 1; at <= 2; at++ {
		for _, kept := range []bool{false, true} {
			d := laid(t, long)
			must(t, d.SetFuse(at, kept))
			expectNoLog(t, d, 1, api.ErrDown)
			must(t, d.Restart())
			if kept {
				expectFile(t, d, good)
			} else {
				expectFile(t, d, long)
			}
			expectLog(t, opened(t, d, 1), 1, plain()[:2]...)
			expectFile(t, d, good)
		}
	}
	d := laid(t, long)
	opened(t, d, 1)
	must(t, d.Crash())
	must(t, d.Restart())
	expectFile(t, d, good)
}

func TestP62AnyBytes(t *testing.T) {
	random := rand.New(rand.NewSource(62))
	good := fileOf(0, plain()[:4]...)
	for range 3000 {
		b := slices.Clone(good[:random.Intn(len(good)+1)])
		for range random.Intn(3) {
			if len(b) > 0 {
				b[random.Intn(len(b))] = byte(random.Intn(256))
			}
		}
		if random.Intn(3) == 0 {
			b = append(b, some(random.Intn(900), random.Intn(50))...)
		}
		n, end := 0, 0
		for n < 4 && bytes.HasPrefix(b, fileOf(0, plain()[:n+1]...)) {
			n++
			end = len(fileOf(0, plain()[:n]...))
		}
		d := laid(t, b)
		expectLog(t, opened(t, d, 0), 0, plain()[:n]...)
		expectFile(t, d, good[:end])
	}
}

func TestP62OpenAnswersOneLogEach(t *testing.T) {
	d := laid(t, fileOf(1, records("a")))
	a, b := opened(t, d, 1), opened(t, d.Clone(), 1)
	must(t, a.Commit([]byte("b")))
	expectLog(t, b, 1, records("a"))
	must(t, b.Reset(5))
	expectLog(t, a, 1, records("a"), records("b"))
}

func TestP67AnotherGeneration(t *testing.T) {
	for _, gen := range inside() {
		for _, other := range inside() {
			if other == gen {
				continue
			}
			d := laid(t, fileOf(gen, plain()[:3]...))
			l := opened(t, d, other)
			expectLog(t, l, other)
			expectFile(t, d, nil)
			must(t, l.Commit([]byte("new")))
			expectLog(t, opened(t, d, other), other, records("new"))
		}
	}
}

func TestP67NothingOfAnotherGenerationFollows(t *testing.T) {
	d := laid(t, append(fileOf(2, records("a")), written(1, 1, records("b"))...))
	expectLog(t, opened(t, d, 2), 2, records("a"))
	expectFile(t, d, fileOf(2, records("a")))
}
