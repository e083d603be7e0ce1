package heap

import (
	"maps"
	"slices"

	"twinstep/api"
)

// Watch notes objects from now on, or no more; what was noted is forgotten.
func (h *Heap) Watch(on bool) {
	if !h.made() {
		return
	}
	h.noted = nil
	if on {
		h.noted = map[int64]struct{}{}
	}
}

// note notes the object of v, if somebody watches.
func (h *Heap) note(v api.Value) {
	if h.noted != nil {
		h.noted[v.N] = struct{}{}
	}
}

// Dirty answers the objects that were noted and are there, by rising numbers; they are forgotten.
func (h *Heap) Dirty() []api.Value {
	if !h.made() || len(h.noted) == 0 {
		return nil
	}
	list := make([]api.Value, 0, len(h.noted))
	for _, n := range slices.Sorted(maps.Keys(h.noted)) {
		list = append(list, h.valueOf(n))
	}
	h.noted = map[int64]struct{}{}
	return list
}
