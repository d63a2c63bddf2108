// Package disk is layer 2: a disk that may lose what is not flushed. See shared/doc/02-disk.md.
package disk

import (
	"slices"

	"levee/api"
)

// image is a block's bytes at one time.
type image [api.Block]byte

// block is what a crash can not take, and the writes that it may take, the oldest first.
type block struct {
	safe   image
	writes []image
}

// last is what the block reads as.
func (b *block) last() image {
	if n := len(b.writes); n > 0 {
		return b.writes[n-1]
	}
	return b.safe
}

// settle makes the n oldest writes safe; the others are lost.
func (b *block) settle(n int) {
	b.writes = b.writes[:n:n]
	b.safe = b.last()
	b.writes = nil
}

// Disk is blocks, and writes to them that are not safe yet.
type Disk struct {
	blocks []block
	ending bool // a Stop holds
	left   int  // how many calls take place still, if one holds
}

// New makes a disk of n blocks of 0.
func New(n int) (*Disk, api.Errno) {
	if n < 1 || n > api.MaxBlocks {
		return nil, api.ErrArg
	}
	return &Disk{blocks: make([]block, n)}, api.OK
}

// Load makes a disk whose safe bytes are b.
func Load(b []byte) (*Disk, api.Errno) {
	if len(b)%api.Block != 0 {
		return nil, api.ErrArg
	}
	d, e := New(len(b) / api.Block)
	if e != api.OK {
		return nil, e
	}
	for i := range d.blocks {
		from, to := i*api.Block, (i+1)*api.Block
		d.blocks[i].safe = image(b[from:to:to])
	}
	return d, api.OK
}

// Len is how many blocks there are.
func (d *Disk) Len() int {
	if d == nil {
		return 0
	}
	return len(d.blocks)
}

// find answers block b, or why there is none.
func (d *Disk) find(b int) (*block, api.Errno) {
	if d == nil {
		return nil, api.ErrNil
	}
	if b < 0 || b >= len(d.blocks) {
		return nil, api.ErrRange
	}
	return &d.blocks[b], api.OK
}

// Read answers block b as it was written last.
func (d *Disk) Read(b int) ([]byte, api.Errno) {
	at, e := d.find(b)
	if e != api.OK {
		return nil, e
	}
	now := at.last()
	return now[:], api.OK
}

// Safe answers block b as it is behind a crash that keeps none of its writes.
func (d *Disk) Safe(b int) ([]byte, api.Errno) {
	at, e := d.find(b)
	if e != api.OK {
		return nil, e
	}
	safe := at.safe
	return safe[:], api.OK
}

// Write gives block b other bytes, not safely.
func (d *Disk) Write(b int, data []byte) api.Errno {
	at, e := d.find(b)
	if e != api.OK {
		return e
	}
	if len(data) != api.Block {
		return api.ErrSize
	}
	if d.goes() {
		at.writes = append(at.writes, image(data))
	}
	return api.OK
}

// Flush makes all writes safe.
func (d *Disk) Flush() api.Errno {
	if d == nil {
		return api.ErrNil
	}
	if d.goes() {
		for _, b := range d.Open() {
			d.blocks[b].settle(d.Writes(b))
		}
	}
	return api.OK
}

// goes tells whether a call takes place, and counts one that does against the Stop.
func (d *Disk) goes() bool {
	if d.Stopped() {
		return false
	}
	if d.ending {
		d.left--
	}
	return true
}

// Open lists the blocks that have writes, rising.
func (d *Disk) Open() []int {
	var open []int
	for b := range d.Len() {
		if len(d.blocks[b].writes) > 0 {
			open = append(open, b)
		}
	}
	return open
}

// Writes is how many writes of block b are not safe.
func (d *Disk) Writes(b int) int {
	at, e := d.find(b)
	if e != api.OK {
		return 0
	}
	return len(at.writes)
}

// Stop lets the power go behind n more calls of Write and Flush.
func (d *Disk) Stop(n int) {
	if d == nil {
		return
	}
	d.ending, d.left = true, max(n, 0)
}

// Stopped tells whether no more calls take place.
func (d *Disk) Stopped() bool {
	return d != nil && d.ending && d.left == 0
}

// Crash keeps, of the i-th block that has writes, pick[i] of these; the disk is on again.
func (d *Disk) Crash(pick []int) {
	if d == nil {
		return
	}
	for i, b := range d.Open() {
		kept := 0
		if i < len(pick) {
			kept = min(max(pick[i], 0), d.Writes(b))
		}
		d.blocks[b].settle(kept)
	}
	d.ending, d.left = false, 0
}

// Copy answers another disk that is as this one, its writes and its Stop too.
func (d *Disk) Copy() *Disk {
	if d == nil {
		return nil
	}
	other := *d
	other.blocks = slices.Clone(d.blocks)
	for _, b := range d.Open() {
		other.blocks[b].writes = slices.Clone(d.blocks[b].writes)
	}
	return &other
}

// Bytes answers all blocks as they were written last, one behind the other.
func (d *Disk) Bytes() []byte {
	all := make([]byte, d.Len()*api.Block)
	for b := range d.Len() {
		now := d.blocks[b].last()
		copy(all[b*api.Block:], now[:])
	}
	return all
}
