package pager

import (
	"bytes"

	"colonnade/api"
	"colonnade/codec"
	"colonnade/disk"
)

// maxGen is the greatest generation.
const maxGen = 1 << 40

// Header returns the sector of a header that says h: ErrArg if its generation, its number of blocks or its root is out of range.
func Header(h api.Head) ([]byte, api.Errno) {
	if !valid(h) {
		return nil, api.ErrArg
	}
	sector := make([]byte, api.Sector)
	copy(sector, codec.Row(h.Gen, int64(h.Root), int64(h.Blocks)))
	sign(sector)
	return sector, api.OK
}

// Heading returns what the header at a place (0 or 1) says whose sector is b, and whether there is one: ErrArg if b is not as long as a sector; ErrCorrupt if it is neither all zero nor what Header returns for a head whose generation belongs to that place.
func Heading(b []byte, place int) (api.Head, bool, api.Errno) {
	if len(b) != api.Sector {
		return api.Head{}, false, api.ErrArg
	}
	if bytes.Count(b, []byte{0}) == len(b) {
		return api.Head{}, false, api.OK
	}
	h := announced(b)
	sector, e := Header(h)
	if e != api.OK || !bytes.Equal(sector, b) || placeOf(h) != place {
		return api.Head{}, false, api.ErrCorrupt
	}
	return h, true, api.OK
}

// announced returns the head whose integers are at the beginning of b. Where there are none, it is zero, and not valid.
func announced(b []byte) api.Head {
	var l [3]int64
	r := codec.NewReader(b)
	for i := range l {
		l[i], _ = r.Int()
	}
	return api.Head{Gen: l[0], Root: int(l[1]), Blocks: int(l[2])}
}

// valid reports whether a header can say h.
func valid(h api.Head) bool {
	return 1 <= h.Gen && h.Gen <= maxGen &&
		firstBlock <= h.Blocks && h.Blocks <= api.MaxBlocks &&
		(h.Root == 0 || firstBlock <= h.Root && h.Root < h.Blocks)
}

// placeOf returns the block whose first sector is the header that says h. Headers alternate, so that the one before remains valid while this one is written.
func placeOf(h api.Head) int {
	return int(h.Gen % places)
}

// readHeading returns what the header at a place of a disk says, with the errors of the disk's Read and of Heading.
func readHeading(d *disk.Disk, place int) (api.Head, bool, api.Errno) {
	b, e := d.Read(api.Main, api.Block*place, api.Sector)
	if e != api.OK {
		return api.Head{}, false, e
	}
	sector := make([]byte, api.Sector)
	copy(sector, b)
	return Heading(sector, place)
}

// writeHeader makes a header durable that says h: the errors of Header and of the disk's Write and Sync.
func writeHeader(d *disk.Disk, h api.Head) api.Errno {
	sector, e := Header(h)
	if e != api.OK {
		return e
	}
	if e := d.Write(api.Main, api.Block*placeOf(h), sector...); e != api.OK {
		return e
	}
	return d.Sync(api.Main)
}
