package scan

import (
	"iter"

	"levee/api"
	"levee/dirent"
)

// spot is a place in a directory's block.
type spot struct {
	block int
	place int
}

// spots goes through all places of a directory, in their order.
func (w *walk) spots(dir int) iter.Seq[spot] {
	return func(yield func(spot) bool) {
		for _, b := range w.lists[dir] {
			for place := range api.PerDir {
				if !yield(spot{block: b, place: place}) {
					return
				}
			}
		}
	}
}

// entry answers what stands at a spot.
func (w *walk) entry(at spot) (api.Entry, api.Errno) {
	w.steps++
	return dirent.Read(w.blocks[at.block], at.place)
}

// lay gives a spot its entry; none, if that is the zero one.
func (w *walk) lay(at spot, e api.Entry) {
	w.blocks[at.block], _ = dirent.Lay(w.blocks[at.block], at.place, e)
}

// goes lets all directories that are kept have their turn, as they were come to. Only when each one has had it comes the first of the entries that wait: what it keeps is a directory, that has its turn ahead of the next one.
func (w *walk) goes() {
	for turn := 0; turn < len(w.kept) || len(w.waits) > 0; {
		if turn == len(w.kept) {
			w.late()
			continue
		}
		w.turn(w.kept[turn])
		turn++
	}
}

// late takes the first of the entries that wait, and lets it stay, if it can.
func (w *walk) late() {
	at := w.waits[0]
	w.waits = w.waits[1:len(w.waits):len(w.waits)]
	e, _ := w.entry(at)
	w.stays(at, e)
}

// turn goes through the entries of a directory; what is none has no places. A name is seen, if it stands there still.
func (w *walk) turn(dir int) {
	seen := map[string]int{}
	for at := range w.spots(dir) {
		e, errno := w.entry(at)
		switch {
		case errno == api.OK && e.Slot == 0: // there is none
		case errno != api.OK || seen[e.Name] > 0 || !w.has(e.Slot):
			w.lay(at, api.Entry{})
		case e.Leaving && w.there[e.Slot].Kind == api.Dir:
			w.waits = append(w.waits, at)
			seen[e.Name]++
		case w.stays(at, e):
			seen[e.Name]++
		}
	}
}

// stays tells whether an entry stays, and lets it name what it must from now on; nothing is Leaving in the end.
func (w *walk) stays(at spot, e api.Entry) bool {
	slot, stays := w.meant(e.Slot)
	if !stays {
		w.lay(at, api.Entry{})
		return false
	}
	w.named(slot)
	w.lay(at, api.Entry{Slot: slot, Name: e.Name})
	return true
}

// meant answers the slot that an entry of a slot names from now on, and whether it may: that of the thing with the same number that is kept, or else this one, that is kept by it. A directory that is kept has its name already.
func (w *walk) meant(slot int) (int, bool) {
	i := w.there[slot]
	at, kept := w.slots[i.Id]
	if !kept {
		w.keep(slot)
		return slot, true
	}
	k := w.things[at]
	return at, i.Kind == k.Kind && k.Kind != api.Dir && k.Links < api.MaxLinks
}
