package fat

import (
	"hauberk/api"
	"hauberk/runs"
)

// world is what all calls of a run share, beside the run itself: memory, and what may be named.
type world struct {
	*memory
	runs.Run
	tops  map[string]uint64
	fns   map[string]*api.Fn
	deeds map[int]deed
	now   *frame // the innermost call
}

func newWorld(input []byte, fuel int) *world {
	return &world{
		memory: newMemory(),
		Run:    runs.New(input, fuel),
		tops:   map[string]uint64{},
		fns:    map[string]*api.Fn{},
		deeds:  deeds(),
	}
}

// unit does one, without an end.
func (w *world) unit(u api.Unit) {
	w.begin(u)
	w.enter(w.fns["main"], nil)
	for {
		w.now.next()
	}
}

// begin gives the variables their places, and makes all names known.
func (w *world) begin(u api.Unit) {
	for _, t := range u.Tops {
		w.tops[t.Name] = place(&w.heap, uint64(t.Size), api.Fault)
	}
	for k := range u.Fns {
		w.fns[u.Fns[k].Name] = &u.Fns[k]
	}
}

// place is that of the next thing in a region; where there is none the run stops, in the way that is told.
func place(r *region, size uint64, otherwise int) uint64 {
	at, ok := r.add(size)
	if !ok {
		runs.Stop(otherwise)
	}
	return at
}
