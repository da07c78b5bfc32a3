package world

import (
	"bytes"
	"slices"

	"flume/api"
	"flume/packet"
	"flume/sums"
)

// To whom something is on its way.
const (
	toLeft     = iota
	toBoxL     // of its host
	toBoxLWide // over the wide side
	toBoxRWide // over the wide side
	toBoxR     // of its host
	toRight
)

// parcel is bytes on their way.
type parcel struct {
	id     int
	to     int
	sealed []byte
	spoilt bool
}

// way is what is on its way, in order.
type way struct {
	parcels []parcel
	last    int // the number that was given last
}

// numbers is those of all that is on its way.
func (w *way) numbers() []int {
	var l []int
	for _, p := range w.parcels {
		l = append(l, p.id)
	}
	return l
}

// find is where something has its place; below 0: it is not on its way.
func (w *way) find(id int) int {
	return slices.IndexFunc(w.parcels, func(p parcel) bool { return p.id == id })
}

// full tells whether nothing more has room.
func (w *way) full() bool {
	return len(w.parcels) >= api.MaxBag
}

// put puts something behind all others; without room it is lost, but for its number.
func (w *way) put(p parcel) {
	w.last++
	p.id = w.last
	if !w.full() {
		w.parcels = append(w.parcels, p)
	}
}

// post puts bytes on their way.
func (w *way) post(to int, b []byte) {
	w.put(parcel{to: to, sealed: sums.Seal(b)})
}

// postAll puts many on their way.
func (w *way) postAll(to int, l [][]byte) {
	for _, b := range l {
		w.post(to, b)
	}
}

// postPacket puts a packet on its way.
func (w *way) postPacket(to int, p api.Packet) {
	if b, e := packet.Put(p); e == api.OK {
		w.post(to, b)
	}
}

// remove takes off what has a place.
func (w *way) remove(i int) parcel {
	p := w.parcels[i]
	w.parcels = slices.Delete(w.parcels, i, i+1)
	return p
}

// double puts what has a place on its way once more.
func (w *way) double(i int) error {
	if w.full() {
		return api.ErrFull
	}
	p := w.parcels[i]
	p.sealed = bytes.Clone(p.sealed)
	w.put(p)
	return nil
}

// spoil turns a byte of what has a place. Twice would be too much: the seal might not tell it any more.
func (w *way) spoil(i, place, mask int) error {
	p := &w.parcels[i]
	if p.spoilt || byte(mask) == 0 {
		return api.ErrStep
	}
	p.spoilt = true
	p.sealed[uint64(place)%uint64(len(p.sealed))] ^= byte(mask)
	return nil
}
