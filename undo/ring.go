package undo

// ring holds the changes of a run's last instructions: those that are kept, from the oldest on, and behind them those that were undone, the earliest first.
type ring struct {
	slots  []change
	first  int // the slot of the oldest one
	kept   int
	undone int
}

// ringOf gives a ring with room for so many changes.
func ringOf(keep int) ring {
	return ring{slots: make([]change, keep)}
}

// slot gives the slot of a change by its number, the oldest one being 0.
func (r *ring) slot(number int) *change {
	return &r.slots[(r.first+number)%len(r.slots)]
}

// add keeps one more change, in the place of the oldest one where there is no room; nothing is undone any more.
func (r *ring) add(c change) {
	r.forget()
	if r.kept == len(r.slots) {
		r.first = (r.first + 1) % len(r.slots)
		r.kept--
	}
	*r.slot(r.kept) = c
	r.kept++
}

// undo gives the last change that is kept, which is undone from now on.
func (r *ring) undo() change {
	r.kept--
	r.undone++
	return *r.slot(r.kept)
}

// redo gives the first change that is undone, which is kept from now on.
func (r *ring) redo() change {
	r.undone--
	r.kept++
	return *r.slot(r.kept - 1)
}

// forget drops the changes that are undone.
func (r *ring) forget() {
	for i := range r.undone {
		*r.slot(r.kept + i) = change{}
	}
	r.undone = 0
}

// clear drops all changes.
func (r *ring) clear() {
	clear(r.slots)
	r.first, r.kept, r.undone = 0, 0, 0
}
