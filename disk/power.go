package disk

import (
	"bytes"
	"slices"

	"colonnade/api"
)

// Crash takes the power away: of the pieces, those remain whose element of keep is true. ErrMade for a disk that New did not return; ErrDown if the power is off.
func (d *Disk) Crash(keep ...bool) api.Errno {
	if !d.isMade() {
		return api.ErrMade
	}
	if d.down {
		return api.ErrDown
	}
	for i, p := range d.pieces {
		if i < len(keep) && keep[i] {
			d.files[p.file].durable = p.apply(d.files[p.file].durable)
		}
	}
	for i, f := range d.files {
		d.files[i].now = bytes.Clone(f.durable)
	}
	d.pieces = nil
	d.fuse, d.keep = 0, nil
	d.down = true
	return api.OK
}

// SetFuse lets the power fail, as by Crash(keep ..), at the n-th Write, Truncate or Sync from now on that is not rejected; 0 removes the fuse. ErrMade as Crash; ErrArg if n is negative.
func (d *Disk) SetFuse(n int, keep ...bool) api.Errno {
	if !d.isMade() {
		return api.ErrMade
	}
	if n < 0 {
		return api.ErrArg
	}
	d.fuse, d.keep = n, nil
	if n > 0 {
		d.keep = slices.Clone(keep)
	}
	return api.OK
}

// Restart turns the power on: ErrMade as Crash.
func (d *Disk) Restart() api.Errno {
	if !d.isMade() {
		return api.ErrMade
	}
	d.down = false
	return api.OK
}

// Down reports whether the power is off.
func (d *Disk) Down() bool {
	return d.isMade() && d.down
}

// Calls returns how many Writes, Truncates and Syncs were not rejected.
func (d *Disk) Calls() int64 {
	if !d.isMade() {
		return 0
	}
	return d.calls
}

// burns reports whether the fuse waits for one more call.
func (d *Disk) burns() bool {
	return d.fuse == 1
}

// count counts a call that was not rejected: ErrDown if it is the one that the fuse waits for.
func (d *Disk) count() api.Errno {
	d.calls++
	if d.burns() {
		d.Crash(d.keep...)
		return api.ErrDown
	}
	d.fuse = max(0, d.fuse-1)
	return api.OK
}
