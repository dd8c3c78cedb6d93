package wal_test

import (
	"bytes"
	"encoding/binary"
	"hash/crc32"
	"iter"
	"slices"
	"testing"

	"colonnade/api"
	"colonnade/disk"
	"colonnade/wal"
)

// greatest is the greatest generation, and the greatest number of a commit.
const greatest = 1 << 40

// commit is the records of a commit.
type commit = [][]byte

// records are the byte strings of texts.
func records(l ...string) commit {
	var c commit
	for _, s := range l {
		c = append(c, []byte(s))
	}
	return c
}

// some is n bytes, none of them zero, that differ by their seed.
func some(n, seed int) []byte {
	b := make([]byte, n)
	for i := range b {
		b[i] = byte(1 + (i+seed*31+i/255*seed)%255)
	}
	return b
}

// sum is a checksum by the library's CRC-32C.
func sum(b []byte) uint32 {
	return crc32.Checksum(b, crc32.MakeTable(crc32.Castagnoli))
}

// signed is b with its checksum behind it.
func signed(b []byte) []byte {
	return binary.LittleEndian.AppendUint32(slices.Clone(b), sum(b))
}

// padded is b with zeros behind it, n bytes in all.
func padded(b []byte, n int) []byte {
	return append(slices.Clone(b), make([]byte, n-len(b))...)
}

// integer is the encoding of n by chapter 3's words.
func integer(n int64) []byte {
	if n < 0 {
		b := integer(-(n + 1))
		for i := range b {
			b[i] = ^b[i]
		}
		return b
	}
	if n <= 119 {
		return []byte{byte(128 + n)}
	}
	m := bytes.TrimLeft(binary.BigEndian.AppendUint64(nil, uint64(n-120)), "\x00")
	if len(m) == 0 {
		m = []byte{0}
	}
	return append([]byte{byte(247 + len(m))}, m...)
}

// sector is the sector of a mark by the chapter's words, whatever its integers are.
func sector(l ...int64) []byte {
	var b []byte
	for _, n := range l {
		b = append(b, integer(n)...)
	}
	return signed(padded(b, api.Sector-4))
}

// markOf is the mark of a commit's data by the chapter's words.
func markOf(gen, seq int64, data []byte) []byte {
	return sector(gen, seq, int64(len(data)), int64(sum(data)))
}

// counted is the data of records by the chapter's words, whatever their number is said to be.
func counted(n int64, c commit) []byte {
	b := integer(n)
	for _, r := range c {
		b = append(append(b, bytes.ReplaceAll(r, []byte{0}, []byte{0, 1})...), 0, 0)
	}
	return b
}

// dataOf is the data of a commit by the chapter's words.
func dataOf(c commit) []byte {
	return counted(int64(len(c)), c)
}

// whole is data in whole sectors.
func whole(data []byte) []byte {
	return padded(data, (len(data)+511)/512*512)
}

// written is what a commit is in the file by the chapter's words.
func written(gen, seq int64, c commit) []byte {
	return append(markOf(gen, seq, dataOf(c)), whole(dataOf(c))...)
}

// fileOf is the file of a log by the chapter's words.
func fileOf(gen int64, l ...commit) []byte {
	var b []byte
	for seq, c := range l {
		b = append(b, written(gen, int64(seq), c)...)
	}
	return b
}

// must tells if a call that is to succeed did not.
func must(t *testing.T, e api.Errno) {
	t.Helper()
	if e != api.OK {
		t.Fatalf("error %d", e)
	}
}

// expectErr tells if a call did not answer the error wanted.
func expectErr(t *testing.T, name string, e, want api.Errno) {
	t.Helper()
	if e != want {
		t.Errorf("%s: %d; want %d", name, e, want)
	}
}

// laid is a disk whose file of commits contains b.
func laid(t *testing.T, b []byte) *disk.Disk {
	t.Helper()
	d := disk.New()
	must(t, d.Write(api.Log, 0, b...))
	must(t, d.Sync(api.Log))
	return d
}

// content is what the file of commits contains.
func content(t *testing.T, d *disk.Disk) []byte {
	t.Helper()
	b, e := d.Read(api.Log, 0, api.MaxFile)
	must(t, e)
	return b
}

// opened is the log of a disk.
func opened(t *testing.T, d *disk.Disk, gen int64) *wal.Log {
	t.Helper()
	l, e := wal.Open(d, gen)
	if e != api.OK || l == nil {
		t.Fatalf("Open: %v, %d", l, e)
	}
	return l
}

// same reports whether two lists of commits are.
func same(a, b []commit) bool {
	return slices.EqualFunc(a, b, func(a, b commit) bool { return slices.EqualFunc(a, b, bytes.Equal) })
}

// all are the commits that a sequence yields.
func all(seq iter.Seq[[][]byte]) []commit {
	var l []commit
	for c := range seq {
		l = append(l, c)
	}
	return l
}

// expectLog tells if a log has another generation or other commits than those wanted.
func expectLog(t *testing.T, l *wal.Log, gen int64, want ...commit) {
	t.Helper()
	if got := all(l.Commits()); !same(got, want) {
		t.Fatalf("there are %d commits that are not the %d wanted", len(got), len(want))
	}
	if l.Many() != len(want) || l.End() != len(fileOf(gen, want...)) || l.Gen() != gen {
		t.Fatalf("Many, End, Gen = %d, %d, %d; want %d, %d, %d", l.Many(), l.End(), l.Gen(), len(want), len(fileOf(gen, want...)), gen)
	}
}

// expectFile tells if the file of commits contains anything but b.
func expectFile(t *testing.T, d *disk.Disk, b []byte) {
	t.Helper()
	if got := content(t, d); !bytes.Equal(got, b) {
		t.Fatalf("the file has %d bytes that are not the %d wanted", len(got), len(b))
	}
}

// plain are commits of many shapes.
func plain() []commit {
	return []commit{
		records("ab"),
		records(""),
		records("", "", "\x00", "a\x00\x00b", "\x00\x01"),
		{some(507, 1)}, // its data fills a sector
		{some(508, 2)}, // its data needs one more
		{some(3000, 3), nil, some(1, 4)},
		slices.Repeat(records("x"), 119),
		slices.Repeat(records("x"), 120),
		slices.Repeat(records("x"), 376),
	}
}

func TestExample(t *testing.T) {
	d := disk.New()
	l := opened(t, d, 7)
	must(t, l.Commit([]byte("ab")))
	b := content(t, d)
	if len(b) != 1024 || l.End() != 1024 {
		t.Fatalf("the file has %d bytes, End() = %d; want 1024", len(b), l.End())
	}
	if !bytes.Equal(b[512:], padded([]byte{129, 'a', 'b', 0, 0}, 512)) {
		t.Errorf("the data is %v", b[512:])
	}
	mark, e := wal.Mark(7, 0, []byte{129, 'a', 'b', 0, 0})
	if e != api.OK || !bytes.Equal(b[:512], mark) {
		t.Errorf("the mark is %v", b[:512])
	}
}

func TestP63Commit(t *testing.T) {
	for _, gen := range []int64{0, 1, 120, greatest} {
		d := disk.New()
		l := opened(t, d, gen)
		for i, c := range plain() {
			must(t, l.Commit(c...))
			expectLog(t, l, gen, plain()[:i+1]...)
			expectFile(t, d, fileOf(gen, plain()[:i+1]...))
			if d.Pending() != 0 {
				t.Errorf("commit %d is not durable", i)
			}
		}
		if d.Calls() != int64(4*len(plain())) {
			t.Errorf("%d calls of the disk; want four a commit", d.Calls())
		}
	}
}

func TestP63CommitLeavesTheMainFile(t *testing.T) {
	d := disk.New()
	must(t, d.Write(api.Main, 0, some(600, 1)...))
	l := opened(t, d, 1)
	must(t, l.Commit([]byte("a")))
	must(t, l.Reset(2))
	if b, e := d.Read(api.Main, 0, api.MaxFile); e != api.OK || !bytes.Equal(b, some(600, 1)) {
		t.Error("the main file is altered")
	}
	if d.Pending() != 2 {
		t.Errorf("of the main file %d pieces are pending; want 2", d.Pending())
	}
}

func TestP63NoRecords(t *testing.T) {
	d := disk.New()
	l := opened(t, d, 1)
	expectErr(t, "Commit of nothing", l.Commit(), api.ErrRecord)
	expectErr(t, "Commit of an empty list", l.Commit(commit{}...), api.ErrRecord)
	must(t, l.Commit(nil))
	expectLog(t, l, 1, records(""))
}

func TestP63TooManyRecords(t *testing.T) {
	d := disk.New()
	l := opened(t, d, 1)
	most := slices.Repeat(records(""), api.MaxRecords)
	for _, n := range []int{1, 2, 3 * api.MaxRecords} {
		expectErr(t, "Commit of too many records", l.Commit(append(slices.Clone(most), slices.Repeat(records(""), n)...)...), api.ErrRecord)
	}
	expectLog(t, l, 1)
	expectFile(t, d, nil)
	must(t, l.Commit(most...))
	expectLog(t, l, 1, most)
	expectLog(t, opened(t, d, 1), 1, most)
}

// sized are commits whose data has n bytes: one record, one with zeros, as many as may be.
func sized(n int) []commit {
	zeros := append(make([]byte, (n-3)/2), some((n-3)%2, 1)...)
	many := slices.Repeat(records("abc"), api.MaxRecords)
	many[0] = some(n-3-5*(api.MaxRecords-1)-2, 1)
	return []commit{{some(n-3, 1)}, {zeros}, many}
}

func TestP63TooManyBytes(t *testing.T) {
	d := disk.New()
	l := opened(t, d, 1)
	longest, tooLong := sized(api.MaxCommit), sized(api.MaxCommit+1)
	for i := range longest {
		if len(dataOf(longest[i])) != api.MaxCommit || len(dataOf(tooLong[i])) != api.MaxCommit+1 {
			t.Fatal("the data has not as many bytes as it should")
		}
		expectErr(t, "Commit of too many bytes", l.Commit(tooLong[i]...), api.ErrRecord)
		must(t, l.Commit(longest[i]...))
		expectLog(t, l, 1, longest[:i+1]...)
	}
	for _, n := range []int{api.MaxCommit, api.MaxBytes - 3, api.MaxBytes, api.MaxBytes + 1, api.MaxFile} {
		expectErr(t, "Commit of too many bytes", l.Commit(some(n, 1)), api.ErrRecord)
		expectErr(t, "Commit of too many bytes", l.Commit([]byte("a"), some(n, 1), []byte("b")), api.ErrRecord)
	}
	expectErr(t, "Commit of too many bytes", l.Commit(slices.Repeat(commit{some(1000, 1)}, api.MaxRecords)...), api.ErrRecord)
	expectFile(t, d, fileOf(1, longest...))
	expectLog(t, opened(t, d, 1), 1, longest...)
}

// filled is a disk with a log of the generation 3 that leaves so many sectors.
func filled(t *testing.T, left int) (*disk.Disk, *wal.Log, []commit) {
	t.Helper()
	d := disk.New()
	l := opened(t, d, 3)
	var commits []commit
	for room := api.MaxFile/512 - left; room > 0; room = api.MaxFile/512 - left - l.End()/512 {
		n := min(512, room-1)
		if room-1-n == 1 {
			n--
		}
		c := commit{some(512*n-3, room)}
		must(t, l.Commit(c...))
		commits = append(commits, c)
	}
	if l.End() != api.MaxFile-512*left {
		t.Fatalf("End() = %d", l.End())
	}
	return d, l, commits
}

func TestP63NoRoom(t *testing.T) {
	for left := range 4 {
		d, l, commits := filled(t, left)
		before, calls := d.Clone(), d.Calls()
		for n := 1; n < 5; n++ {
			if n+1 <= left {
				continue
			}
			for _, length := range []int{512*(n-1) - 2, 512*n - 3} {
				if length < 0 {
					length = 0
				}
				expectErr(t, "Commit without room", l.Commit(some(length, 1)), api.ErrFull)
			}
		}
		expectErr(t, "Commit without room, and without records", l.Commit(), api.ErrRecord)
		expectErr(t, "Commit without room, and of too many bytes", l.Commit(some(api.MaxCommit, 1)), api.ErrRecord)
		if !disk.Same(d, before) || d.Calls() != calls {
			t.Error("a commit without room has written something")
		}
		expectLog(t, l, 3, commits...)
		if left >= 2 {
			c := commit{some(512*(left-1)-3, 9)}
			must(t, l.Commit(c...))
			expectLog(t, l, 3, append(commits, c)...)
			expectLog(t, opened(t, d, 3), 3, append(commits, c)...)
			expectErr(t, "Commit into a full file", l.Commit([]byte("a")), api.ErrFull)
		}
	}
}

func TestP63NoRoomAndNoPower(t *testing.T) {
	d, l, commits := filled(t, 1)
	must(t, d.Crash())
	expectErr(t, "Commit without room and power", l.Commit([]byte("a")), api.ErrDown)
	expectErr(t, "Commit of nothing without room and power", l.Commit(), api.ErrRecord)
	expectErr(t, "Commit of too many bytes without room and power", l.Commit(some(api.MaxCommit, 1)), api.ErrRecord)
	must(t, d.Restart())
	expectErr(t, "Commit without room", l.Commit([]byte("a")), api.ErrFull)
	expectLog(t, l, 3, commits...)
}

func TestP63NoPower(t *testing.T) {
	d := disk.New()
	l := opened(t, d, 1)
	must(t, l.Commit([]byte("a")))
	must(t, d.Crash())
	expectErr(t, "Commit without power", l.Commit([]byte("b")), api.ErrDown)
	expectErr(t, "Commit of nothing without power", l.Commit(), api.ErrRecord)
	expectLog(t, l, 1, records("a"))
	must(t, d.Restart())
	must(t, l.Commit([]byte("c")))
	expectLog(t, l, 1, records("a"), records("c"))
	expectFile(t, d, fileOf(1, records("a"), records("c")))
}

func TestP63TheCallsInOrder(t *testing.T) {
	first, second := commit{some(600, 1)}, commit{some(1200, 2), some(3, 3)}
	before, data := fileOf(5, first), whole(dataOf(second))
	apart := slices.Concat(padded(before, len(before)+512), data)
	joined := slices.Concat(before, markOf(5, 1, dataOf(second)), data)
	for at, x := range []struct{ lost, kept []byte }{{before, apart}, {before, apart}, {apart, joined}, {apart, joined}} {
		for _, want := range [][]byte{x.lost, x.kept} {
			d := laid(t, before)
			l := opened(t, d, 5)
			keep := slices.Repeat([]bool{bytes.Equal(want, x.kept)}, 9)
			must(t, d.SetFuse(1+at, keep...))
			expectErr(t, "Commit with a fuse", l.Commit(second...), api.ErrDown)
			expectLog(t, l, 5, first)
			must(t, d.Restart())
			expectFile(t, d, want)
		}
	}
}

func TestP63AfterAnError(t *testing.T) {
	d := disk.New()
	l := opened(t, d, 1)
	must(t, l.Commit([]byte("a")))
	must(t, d.SetFuse(1))
	expectErr(t, "Commit with a fuse", l.Commit([]byte("b")), api.ErrDown)
	expectErr(t, "Commit again", l.Commit([]byte("b")), api.ErrDown)
	must(t, d.Restart())
	for at := 1; at <= 4; at++ {
		must(t, d.SetFuse(at, true, true))
		expectErr(t, "Commit with a fuse", l.Commit([]byte("b"), some(at*400, 1)), api.ErrDown)
		expectLog(t, l, 1, records("a"))
		must(t, d.Restart())
	}
	must(t, l.Commit([]byte("c")))
	expectLog(t, l, 1, records("a"), records("c"))
	expectLog(t, opened(t, d, 1), 1, records("a"), records("c"))
}

func TestP63ArgumentsAreLeftAndNotKept(t *testing.T) {
	d := disk.New()
	l := opened(t, d, 1)
	c := plain()[2]
	must(t, l.Commit(c...))
	if !same([]commit{c}, plain()[2:3]) {
		t.Error("Commit has changed its arguments")
	}
	for _, r := range c {
		clear(r)
	}
	clear(c)
	expectLog(t, l, 1, plain()[2])
	expectFile(t, d, fileOf(1, plain()[2]))
}

func TestP64Reset(t *testing.T) {
	d := disk.New()
	l := opened(t, d, 1)
	for gen := range int64(4) {
		must(t, l.Commit([]byte("a")))
		must(t, l.Commit([]byte("b"), some(700, int(gen))))
		calls := d.Calls()
		must(t, l.Reset(gen))
		expectLog(t, l, gen)
		expectFile(t, d, nil)
		if d.Pending() != 0 || d.Calls() != calls+2 {
			t.Errorf("Reset makes %d calls, and leaves %d pieces", d.Calls()-calls, d.Pending())
		}
		must(t, l.Commit([]byte("c")))
		expectLog(t, l, gen, records("c"))
		expectFile(t, d, fileOf(gen, records("c")))
	}
	must(t, l.Reset(greatest))
	must(t, l.Reset(greatest))
	must(t, l.Commit([]byte("d")))
	expectFile(t, d, fileOf(greatest, records("d")))
	must(t, l.Reset(0))
	expectLog(t, opened(t, d, 0), 0)
}

func TestP64ResetErrors(t *testing.T) {
	d := disk.New()
	l := opened(t, d, 1)
	must(t, l.Commit([]byte("a")))
	for _, gen := range outside() {
		expectErr(t, "Reset", l.Reset(gen), api.ErrArg)
	}
	expectFile(t, d, fileOf(1, records("a")))
	must(t, d.Crash())
	for _, gen := range outside() {
		expectErr(t, "Reset without power", l.Reset(gen), api.ErrArg)
	}
	expectErr(t, "Reset without power", l.Reset(2), api.ErrDown)
	expectLog(t, l, 1, records("a"))
	must(t, d.Restart())
	for at := 1; at <= 2; at++ {
		for _, keep := range []bool{false, true} {
			x := d.Clone()
			l := opened(t, x, 1)
			must(t, x.SetFuse(at, keep))
			expectErr(t, "Reset with a fuse", l.Reset(2), api.ErrDown)
			expectLog(t, l, 1, records("a"))
			must(t, x.Restart())
			if keep {
				expectFile(t, x, nil)
			} else {
				expectFile(t, x, fileOf(1, records("a")))
			}
		}
	}
}

func TestP64CommitsStop(t *testing.T) {
	l := opened(t, laid(t, fileOf(1, plain()...)), 1)
	for stop := 1; stop <= len(plain()); stop++ {
		var got []commit
		for c := range l.Commits() {
			got = append(got, c)
			if len(got) == stop {
				break
			}
		}
		if !same(got, plain()[:stop]) {
			t.Errorf("stopped after %d commits, they are others", stop)
		}
	}
	seq := l.Commits()
	if !same(all(seq), plain()) || !same(all(seq), plain()) {
		t.Error("a sequence that is ranged over twice differs")
	}
}

func TestP64CommitsShareNoMemory(t *testing.T) {
	d := laid(t, fileOf(1, plain()...))
	l := opened(t, d, 1)
	must(t, l.Commit([]byte("abc"), []byte("d")))
	want := append(plain(), records("abc", "d"))
	for range 2 {
		for c := range l.Commits() {
			for i := range c {
				_ = append(c[i], "zzzz"...)
			}
			for i := range c {
				clear(c[i])
			}
			clear(c)
		}
	}
	expectLog(t, l, 1, want...)
	for _, c := range all(l.Commits()) {
		before := slices.Clone(c)
		for i := range c {
			before[i] = slices.Clone(c[i])
		}
		for i := range c {
			_ = append(c[i], "zzzz"...)
		}
		if !same([]commit{c}, []commit{before}) {
			t.Fatal("two records of a commit share memory")
		}
	}
	expectFile(t, d, fileOf(1, want...))
}

func TestP64WhileCommitsAreYielded(t *testing.T) {
	d := disk.New()
	l := opened(t, d, 1)
	must(t, l.Commit([]byte("a")))
	must(t, l.Commit([]byte("b")))
	var got []commit
	for c := range l.Commits() {
		got = append(got, c)
		must(t, l.Reset(2))
		must(t, l.Commit([]byte("c")))
	}
	if !same(got, []commit{records("a"), records("b")}) {
		t.Errorf("%d commits are yielded", len(got))
	}
	expectLog(t, l, 2, records("c"))
}

func TestP64WhatNoFunctionCreated(t *testing.T) {
	for _, l := range []*wal.Log{nil, {}, new(wal.Log)} {
		expectErr(t, "Commit", l.Commit([]byte("a")), api.ErrMade)
		expectErr(t, "Commit of nothing", l.Commit(), api.ErrMade)
		expectErr(t, "Commit of too much", l.Commit(some(api.MaxCommit, 1)), api.ErrMade)
		expectErr(t, "Reset", l.Reset(1), api.ErrMade)
		expectErr(t, "Reset out of range", l.Reset(-1), api.ErrMade)
		if l.Many() != 0 || l.End() != 0 || l.Gen() != 0 || len(all(l.Commits())) != 0 {
			t.Error("a log that no function created has something")
		}
	}
}
