package pager_test

import (
	"bytes"
	"slices"
	"testing"

	"colonnade/api"
	"colonnade/disk"
	"colonnade/pager"
)

// all is a script that keeps everything.
var all = slices.Repeat([]bool{true}, 4096)

func TestP56Commit(t *testing.T) {
	base := append(some(3*api.Block, 1), sealed(nil)...)
	copy(base, sector(6, 3, 4))
	copy(base[api.Block:], sector(5, 2, 3))
	d := laid(t, base)
	must(t, d.Write(api.Log, 0, 1))
	p := opened(t, d)
	want := slices.Clone(base)
	for _, x := range []struct{ gen, root int }{{7, 2}, {8, 0}, {9, 3}, {10, 3}, {11, 2}} {
		calls := d.Calls()
		must(t, p.Commit(x.root))
		expectHead(t, p, int64(x.gen), x.root, 4)
		copy(want[x.gen%2*api.Block:], sector(int64(x.gen), int64(x.root), 4))
		if !bytes.Equal(content(t, d), want) {
			t.Fatalf("the file after Commit %d is unlike the chapter's", x.gen)
		}
		if d.Calls() != calls+3 || d.Pending() != 1 {
			t.Fatalf("Commit %d made %d calls, and left %d pieces", x.gen, d.Calls()-calls, d.Pending())
		}
		again := opened(t, d.Clone())
		expectHead(t, again, int64(x.gen), x.root, 4)
	}
}

func TestP56CommitMakesAllDurable(t *testing.T) {
	d := disk.New()
	p := opened(t, d)
	first, e := p.Put(some(10000, 1))
	must(t, e)
	must(t, p.Commit(first))
	must(t, d.Crash())
	must(t, d.Restart())
	p = opened(t, d)
	expectHead(t, p, 1, 4, 5)
	expectGet(t, p, 4, some(10000, 1), 4, 3, 2)
}

func TestP56States(t *testing.T) {
	d := headed(t, nil, sector(1, 3, 7))
	p := opened(t, d)
	must(t, p.Claim(2, 3, 4))
	expectAlloc(t, p, 5, 6, 7, 8)
	must(t, p.Free(2))
	must(t, p.Free(6))
	must(t, p.Free(8))
	expectHead(t, p, 1, 3, 7)
	expectUsed(t, p, 2, 3, 4, 5, 7)
	must(t, p.Commit(6))
	expectHead(t, p, 2, 6, 9)
	expectUsed(t, p, 3, 4, 5, 7)
	for n := 2; n < 9; n++ {
		expectErr(t, "Write after a commit", p.Write(n, 1), api.ErrKept)
	}
	must(t, p.Free(5))
	expectUsed(t, p, 3, 4, 5, 7)
	expectAlloc(t, p, 2, 6)
	must(t, p.Commit(8))
	expectHead(t, p, 3, 8, 9)
	expectUsed(t, p, 2, 3, 4, 6, 7)
	must(t, p.Claim())
	expectUsed(t, p)
	again := opened(t, d)
	expectHead(t, again, 3, 8, 9)
	expectUsed(t, again, between(2, 9)...)
}

func TestP56CommitErrors(t *testing.T) {
	d := headed(t, nil, sector(1, 3, 6))
	p := opened(t, d)
	expectAlloc(t, p, 6, 7)
	must(t, p.Write(6, 1))
	must(t, p.Free(2))
	calls, pieces := d.Calls(), d.Pending()
	for _, down := range []bool{false, true} {
		if down {
			must(t, d.Crash(all...))
			pieces = 0
		}
		for _, root := range noBlocks(8) {
			if root != 0 {
				expectErr(t, "Commit of no block", p.Commit(root), api.ErrArg)
			}
		}
		if d.Calls() != calls || d.Pending() != pieces {
			t.Errorf("rejected Commits made %d calls", d.Calls()-calls)
		}
	}
	for _, root := range []int{0, 2, 7} {
		expectErr(t, "Commit without power", p.Commit(root), api.ErrDown)
	}
	expectHead(t, p, 1, 3, 6)
	must(t, d.Restart())
	expectUsed(t, p, between(2, 8)...)
	must(t, p.Write(6, 2))
	must(t, p.Commit(7))
	expectHead(t, p, 2, 7, 8)
	expectUsed(t, p, between(3, 8)...)
}

func TestP56CommitAfterTheLastGeneration(t *testing.T) {
	d := headed(t, nil, sector(maxGen-1, 0, 3))
	p := opened(t, d)
	must(t, p.Commit(2))
	expectHead(t, p, maxGen, 2, 3)
	expectAlloc(t, p, 3)
	must(t, p.Write(3, 1))
	must(t, p.Free(2))
	calls, before := d.Calls(), content(t, d)
	expectErr(t, "Commit beyond the last generation", p.Commit(4), api.ErrArg)
	if d.Calls() != calls || d.Pending() != 8 {
		t.Errorf("the root is not checked first: %d calls", d.Calls()-calls)
	}
	expectErr(t, "Commit beyond the last generation", p.Commit(3), api.ErrArg)
	if d.Calls() != calls+1 || d.Pending() != 0 || !bytes.Equal(content(t, d), before) {
		t.Errorf("Commit beyond the last generation made %d calls, and left %d pieces", d.Calls()-calls, d.Pending())
	}
	expectHead(t, p, maxGen, 2, 3)
	expectUsed(t, p, 2, 3)
	must(t, p.Write(3, 2))
	must(t, d.SetFuse(1))
	expectErr(t, "Commit beyond the last generation at a fuse", p.Commit(3), api.ErrDown)
	expectErr(t, "Commit beyond the last generation without power", p.Commit(0), api.ErrDown)
	must(t, d.Restart())
	expectHead(t, opened(t, d), maxGen, 2, 3)
}

func TestP56CommitAtAFuse(t *testing.T) {
	for at := 1; at <= 3; at++ {
		for _, keep := range [][]bool{nil, all} {
			d := headed(t, nil, sector(1, 3, 6))
			p := opened(t, d)
			expectAlloc(t, p, 6)
			must(t, p.Write(6, 1))
			must(t, p.Free(2))
			must(t, d.SetFuse(at, keep...))
			before := content(t, d)
			expectErr(t, "Commit with a fuse", p.Commit(6), api.ErrDown)
			expectHead(t, p, 1, 3, 6)
			expectUsed(t, p, 2, 3, 4, 5, 6)
			expectErr(t, "Free once more", p.Free(2), api.ErrArg)
			must(t, d.Restart())
			if at > 1 && keep != nil {
				copy(before, sector(2, 6, 7))
			}
			if at == 1 && keep == nil {
				before = before[:api.Block+api.Sector]
			}
			if !bytes.Equal(content(t, d), before) {
				t.Errorf("the file after a Commit that failed at call %d is unlike the chapter's", at)
			}
			must(t, p.Write(6, 4, 4))
			must(t, p.Commit(6))
			expectHead(t, p, 2, 6, 7)
			expectUsed(t, p, 3, 4, 5, 6)
			p = opened(t, d)
			expectHead(t, p, 2, 6, 7)
			expectRead(t, p, 6, []byte{4, 4})
		}
	}
}

func TestP56HeadIsWhatWasCommitted(t *testing.T) {
	d := disk.New()
	p := opened(t, d)
	expectAlloc(t, p, 2, 3, 4)
	expectHead(t, p, 0, 0, 2)
	must(t, p.Commit(0))
	expectHead(t, p, 1, 0, 5)
	expectAlloc(t, p, 5)
	must(t, p.Free(5))
	expectHead(t, p, 1, 0, 5)
	must(t, p.Commit(5))
	expectHead(t, p, 2, 5, 6)
	other, e := pager.Open(d)
	must(t, e)
	must(t, other.Commit(0))
	expectHead(t, p, 2, 5, 6)
	expectHead(t, other, 3, 0, 6)
}
