package pager_test

import (
	"bytes"
	"math/bits"
	"math/rand"
	"slices"
	"testing"

	"colonnade/api"
	"colonnade/disk"
	"colonnade/pager"
)

// bursts are bits that are inverted, one after the other from the least significant one on.
func bursts(random *rand.Rand) []uint32 {
	return []uint32{1, 0xFFFFFFFF, 0x80000001, random.Uint32() | 1, random.Uint32()>>random.Intn(32) | 1}
}

// inverted is b with the bits of a burst inverted from the bit at on, and the bytes from and to between which they are.
func inverted(b []byte, at int, burst uint32) ([]byte, int, int) {
	b = slices.Clone(b)
	from, to := len(b), 0
	for i := range 32 {
		if k := at + i; burst>>i&1 == 1 && k >= 0 && k < 8*len(b) {
			b[k/8] ^= 1 << (k % 8)
			from, to = min(from, k/8), max(to, k/8+1)
		}
	}
	return b, from, to
}

// damage inverts the bits of a burst in a disk's main file, which contains these bytes, and gives the bytes between which they are.
func damage(t *testing.T, d *disk.Disk, file []byte, at int, burst uint32) (int, int) {
	t.Helper()
	b, from, to := inverted(file, at, burst)
	if from < to {
		must(t, d.Write(api.Main, from, b[from:to]...))
	}
	return from, to
}

// filled is a disk with two headers and five blocks, of the lengths that matter.
func filled(t *testing.T) *disk.Disk {
	t.Helper()
	d := disk.New()
	p := opened(t, d)
	expectAlloc(t, p, 2, 3, 4, 5, 6)
	for i, n := range []int{0, 1, 100, 4089, 4090} {
		must(t, p.Write(2+i, some(n, i)...))
	}
	must(t, p.Commit(0))
	must(t, p.Commit(3))
	return d
}

func TestP58DamageOfAHeader(t *testing.T) {
	d := filled(t)
	file := content(t, d)
	random := rand.New(rand.NewSource(58))
	for at := range 2 {
		begin := 8 * api.Block * at
		for bit := begin - 31; bit < begin+8*api.Sector; bit++ {
			for _, burst := range bursts(random) {
				from, to := damage(t, d, file, bit, burst)
				p, e := pager.Open(d)
				touched := to > at*api.Block && from < at*api.Block+api.Sector
				if touched && (p != nil || e != api.ErrCorrupt) || !touched && e != api.OK {
					t.Fatalf("Open with the bits %b inverted from %d on: %d", burst, bit, e)
				}
				damage(t, d, content(t, d), bit, burst)
			}
			must(t, d.Sync(api.Main))
		}
	}
	expectHead(t, opened(t, d), 2, 3, 7)
}

func TestP58DamageOfTheOnlyHeader(t *testing.T) {
	d := disk.New()
	must(t, opened(t, d).Commit(0))
	file := content(t, d)
	random := rand.New(rand.NewSource(581))
	for bit := 8 * api.Block; bit < 8*(api.Block+api.Sector); bit++ {
		for _, burst := range bursts(random) {
			b, _, _ := inverted(file, bit, burst)
			if p, e := pager.Open(laid(t, b)); p != nil || e != api.ErrCorrupt {
				t.Fatalf("Open with the bits %b inverted from %d on: %d", burst, bit, e)
			}
		}
	}
	expectHead(t, opened(t, d), 1, 0, 2)
}

// places are the bits of a block at which bursts begin: at all its edges, and here and there.
func places(n int, random *rand.Rand) []int {
	begin, end := 8*api.Block*n, 8*api.Block*(n+1)
	var l []int
	l = append(l, between(begin-31, begin+40)...)
	l = append(l, between(end-80, end)...)
	for bit := begin + 40; bit < end-80; bit += 1 + random.Intn(300) {
		l = append(l, bit)
	}
	return l
}

func TestP58DamageOfABlock(t *testing.T) {
	d := filled(t)
	file := content(t, d)
	random := rand.New(rand.NewSource(582))
	for n := 2; n < 7; n++ {
		for _, bit := range places(n, random) {
			for _, burst := range bursts(random) {
				from, to := damage(t, d, file, bit, burst)
				expectDamage(t, opened(t, d), file, n, from, to)
				damage(t, d, content(t, d), bit, burst)
			}
			must(t, d.Sync(api.Main))
		}
	}
}

// expectDamage tells if block n is read although it is damaged between two bytes of the file, or not read although it is not.
func expectDamage(t *testing.T, p *pager.Pager, file []byte, n, from, to int) {
	t.Helper()
	begin, end := n*api.Block, (n+1)*api.Block
	if to > begin && from < end {
		if b, e := p.Read(n); b != nil || e != api.ErrCorrupt {
			t.Fatalf("Read(%d) with the bytes from %d to %d damaged = %d bytes, %d", n, from, to, len(b), e)
		}
		return
	}
	length := int(file[begin]) + int(file[begin+1])<<8
	expectRead(t, p, n, file[begin+2:begin+2+length])
}

func TestP58DamageWithinALongBlock(t *testing.T) {
	random := rand.New(rand.NewSource(583))
	for _, n := range []int{0, 1, 2000, 4090} {
		b := sealed(some(n, n))
		for range 2000 {
			burst := random.Uint32() | 1
			damaged, _, _ := inverted(b, random.Intn(8*api.Block-bits.Len32(burst)), burst)
			if got, e := pager.Unseal(damaged); got != nil || e != api.ErrCorrupt {
				t.Fatalf("Unseal of a damaged block = %d bytes, %d", len(got), e)
			}
		}
		if got, e := pager.Unseal(b); e != api.OK || !bytes.Equal(got, some(n, n)) {
			t.Fatalf("Unseal of a block that is not damaged: %d", e)
		}
	}
}
