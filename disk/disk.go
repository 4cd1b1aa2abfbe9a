// Package disk is layer 1: a stand-in for a disk: see shared/doc/01-disk.md.
package disk

import (
	"slices"

	"haversack/api"
)

// noFuse is any number below 0: one is enough, so that two disks without a fuse are alike.
const noFuse = -1

// write is a sector's bytes on their way there. They are an array, so that a copied list of writes shares nothing.
type write struct {
	at    int
	bytes [api.Sector]byte
}

// Disk is sectors, and writes that wait.
type Disk struct {
	sectors
	waits []write
	fuse  int
	gone  bool
	steps int
}

// New makes a disk.
func New(n int) (*Disk, api.Errno) {
	if n < 1 || n > api.MaxSectors {
		return nil, api.ErrArg
	}
	return &Disk{sectors: blank(n), fuse: noFuse}, api.OK
}

// Write writes a sector.
func (d *Disk) Write(at int, b []byte) api.Errno {
	switch {
	case d == nil:
		return api.ErrNil
	case len(b) != api.Sector:
		return api.ErrArg
	case !d.has(at):
		return api.ErrRange
	case !d.step():
		return api.ErrPower
	}
	w := write{at: at}
	copy(w.bytes[:], b)
	d.waits = append(d.waits, w)
	return api.OK
}

// Read reads one.
func (d *Disk) Read(at int) ([]byte, api.Errno) {
	switch {
	case d == nil:
		return nil, api.ErrNil
	case !d.has(at):
		return nil, api.ErrRange
	case d.gone:
		return nil, api.ErrPower
	}
	b := d.held(at)
	for i := len(d.waits) - 1; i >= 0; i-- {
		if d.waits[i].at == at {
			copy(b, d.waits[i].bytes[:])
			break
		}
	}
	return b, api.OK
}

// Flush does all writes that wait.
func (d *Disk) Flush() api.Errno {
	if d == nil {
		return api.ErrNil
	}
	if !d.step() {
		return api.ErrPower
	}
	for i := range d.waits {
		d.lay(d.waits[i].at, d.waits[i].bytes[:])
	}
	d.waits = nil
	return api.OK
}

// Fuse is how many steps are still done.
func (d *Disk) Fuse(n int) {
	if d != nil {
		d.fuse = max(n, noFuse)
	}
}

// Crash is the disk behind a crash.
func (d *Disk) Crash(kept ...api.Keep) *Disk {
	if d == nil {
		return nil
	}
	behind := &Disk{sectors: d.another(), fuse: noFuse}
	for _, k := range kept {
		if k.Write < 0 || k.Write >= len(d.waits) {
			continue
		}
		n := min(max(k.Bytes, 0), api.Sector)
		behind.lay(d.waits[k.Write].at, d.waits[k.Write].bytes[:n])
	}
	return behind
}

// Copy is another one that is the same.
func (d *Disk) Copy() *Disk {
	if d == nil {
		return nil
	}
	other := *d
	other.sectors = d.another()
	other.waits = slices.Clone(d.waits)
	return &other
}

// Size is how many sectors there are.
func (d *Disk) Size() int {
	if d == nil {
		return 0
	}
	return d.count()
}

// Waiting is how many writes wait.
func (d *Disk) Waiting() int {
	if d == nil {
		return 0
	}
	return len(d.waits)
}

// Steps is how many steps were done.
func (d *Disk) Steps() int {
	if d == nil {
		return 0
	}
	return d.steps
}

// step tells whether there is power for a step, and counts it. The power goes here, ahead of the step that the fuse has no more, and not as soon as the fuse is 0: a Read between is no step, and is still answered.
func (d *Disk) step() bool {
	if d.fuse == 0 {
		d.gone = true
	}
	if d.gone {
		return false
	}
	if d.fuse > 0 {
		d.fuse--
	}
	d.steps++
	return true
}
