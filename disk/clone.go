package disk

import (
	"bytes"
	"slices"
)

// Clone returns an independent copy of the disk, with its pieces, its power and its fuse; nil for a disk that New did not return.
func (d *Disk) Clone() *Disk {
	if !d.isMade() {
		return nil
	}
	c := *d
	for i, f := range d.files {
		c.files[i] = file{now: bytes.Clone(f.now), durable: bytes.Clone(f.durable)}
	}
	c.keep = slices.Clone(d.keep)
	c.pieces = slices.Clone(d.pieces)
	return &c
}

// Same reports whether both files contain the same on two disks that New returned, or Clone.
func Same(a, b *Disk) bool {
	if !a.isMade() || !b.isMade() {
		return false
	}
	for i, f := range a.files {
		if !bytes.Equal(f.now, b.files[i].now) {
			return false
		}
	}
	return true
}
