package heap

import "hauberk/api"

// room is what is kept of a live block: its size, whether it may be freed, and the offsets at which something was stored, so that these are found without a look at all other blocks' places.
type room struct {
	size int
	free bool
	used []int
}

// whole is the pointer to a block's offset 0, with all of it.
func whole(block, size int) Ptr { return Ptr{Block: block, High: size} }

// within tells whether a pointer may point to so many bytes. The distance from one offset up to a greater one is right as a uint64, even where it is none as an int.
func within(p Ptr, bytes int) bool {
	return p.Low <= p.Off && p.Off < p.High && uint64(p.High)-uint64(p.Off) >= uint64(bytes)
}

// target is the live block that a pointer is to.
func (h *Heap) target(p Ptr) (*room, api.Errno) {
	if p.Block == 0 {
		return nil, api.ErrNull
	}
	r := h.live[p.Block]
	if r == nil {
		return nil, api.ErrGone
	}
	return r, api.OK
}

// reach does what is to be done at the place of a pointer, if so many bytes may be loaded or stored there.
func (h *Heap) reach(p Ptr, bytes int, do func(r *room, at Place)) api.Errno {
	if bytes != 1 && bytes != 4 && bytes != 8 {
		return api.ErrRange
	}
	r, e := h.target(p)
	if e != api.OK {
		return e
	}
	if !within(p, bytes) {
		return api.ErrBounds
	}
	do(r, Place{Block: p.Block, Off: p.Off})
	return api.OK
}

// numbered does what is to be done to the block of that number, if it is live.
func (h *Heap) numbered(block int, do func(r *room)) api.Errno {
	if block < 1 || block > h.made {
		return api.ErrRange
	}
	r := h.live[block]
	if r == nil {
		return api.ErrGone
	}
	do(r)
	return api.OK
}

// empty makes all places of a block what they were at first.
func (h *Heap) empty(block int, r *room) {
	for _, off := range r.used {
		delete(h.stands, Place{Block: block, Off: off})
	}
	r.used = r.used[:0]
}

// drop makes a block gone, with what stands in it.
func (h *Heap) drop(block int, r *room) {
	h.empty(block, r)
	delete(h.live, block)
}
