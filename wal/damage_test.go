package wal_test

import (
	"math/rand"
	"slices"
	"testing"

	"colonnade/api"
)

// bursts are bits that are inverted, one after the other from the least significant one on.
func bursts(random *rand.Rand) []uint32 {
	return []uint32{1, 0xFFFFFFFF, 0x80000001, random.Uint32() | 1, random.Uint32()>>random.Intn(32) | 1}
}

// inverted is b with the bits of a burst inverted from the bit at on, and the byte at which they begin.
func inverted(b []byte, at int, burst uint32) ([]byte, int) {
	b = slices.Clone(b)
	from := len(b)
	for i := range 32 {
		if k := at + i; burst>>i&1 == 1 && k >= 0 && k < 8*len(b) {
			b[k/8] ^= 1 << (k % 8)
			from = min(from, k/8)
		}
	}
	return b, from
}

// expectDamaged tells if a log whose damage begins at a byte is anything but those of its commits that end before it.
func expectDamaged(t *testing.T, damaged []byte, from int, commits []commit) {
	t.Helper()
	n := 0
	for n < len(commits) && len(fileOf(6, commits[:n+1]...)) <= from {
		n++
	}
	d := laid(t, damaged)
	expectLog(t, opened(t, d, 6), 6, commits[:n]...)
	expectFile(t, d, fileOf(6, commits[:n]...))
}

func TestP66DamageEndsTheLog(t *testing.T) {
	random := rand.New(rand.NewSource(66))
	commits := []commit{records("ab"), {some(500, 1), nil}, records("c", "", "\x00")}
	file := fileOf(6, commits...)
	var edges []int
	for _, c := range []int{0, 512, 1024, 1536, 2048, 2560, len(file)} {
		for bit := 8*c - 40; bit < 8*c+200; bit++ {
			edges = append(edges, bit)
		}
	}
	for bit := 0; bit < 8*len(file); bit += 1 + random.Intn(12) {
		edges = append(edges, bit)
	}
	for _, bit := range edges {
		for _, burst := range bursts(random) {
			damaged, from := inverted(file, bit, burst)
			if from < len(file) {
				expectDamaged(t, damaged, from, commits)
			}
		}
	}
}

func TestP66DamageOfALongCommit(t *testing.T) {
	random := rand.New(rand.NewSource(660))
	commits := []commit{records("a"), {some(api.MaxCommit-100, 1)}, records("b")}
	file := fileOf(6, commits...)
	for range 60 {
		damaged, from := inverted(file, random.Intn(8*len(file)), random.Uint32()|1)
		if from < len(file) {
			expectDamaged(t, damaged, from, commits)
		}
	}
}

func TestP66AfterDamageTheLogGoesOn(t *testing.T) {
	commits := []commit{records("a"), records("b"), records("c")}
	for from, b := range fileOf(6, commits...) {
		if from%97 != 0 {
			continue
		}
		damaged := fileOf(6, commits...)
		damaged[from] = b ^ 16
		d := laid(t, damaged)
		l := opened(t, d, 6)
		want := append(slices.Clone(commits[:from/1024]), records("d"))
		must(t, l.Commit([]byte("d")))
		expectLog(t, opened(t, d, 6), 6, want...)
	}
}
