package heap

import (
	"slices"
	"strings"

	"twinstep/api"
)

// Str answers the text that has these bytes, a new one if there is none.
func (h *Heap) Str(s string) (api.Value, api.Errno) {
	if !h.made() {
		return api.Value{}, api.ErrNil
	}
	if len(s) > api.MaxText {
		return api.Value{}, api.ErrLong
	}
	if v, ok := h.Known(s); ok {
		h.note(v)
		return v, api.OK
	}
	// What was handed in may be a piece of something great, which would be kept with it.
	text := strings.Clone(s)
	v, err := h.add(object{kind: api.KStr, text: text})
	if err == api.OK {
		h.texts[text] = v.N
	}
	return v, err
}

// Known answers the text that has these bytes, and whether there is one.
func (h *Heap) Known(s string) (api.Value, bool) {
	if !h.made() {
		return api.Value{}, false
	}
	if n, ok := h.texts[s]; ok {
		return api.Value{Kind: api.KStr, N: n}, true
	}
	return api.Value{}, false
}

// Text answers a text's bytes, and whether v is one.
func (h *Heap) Text(v api.Value) (string, bool) {
	if o := h.find(api.KStr, v); o != nil {
		return o.text, true
	}
	return "", false
}

// Func answers a new function, that of the program's number proto, with the cells of outer variables.
func (h *Heap) Func(proto int, cells []api.Value) (api.Value, api.Errno) {
	if !h.made() {
		return api.Value{}, api.ErrNil
	}
	if proto < 0 || len(cells) > api.MaxUps {
		return api.Value{}, api.ErrValue
	}
	noCell := func(v api.Value) bool { return h.find(api.KCell, v) == nil }
	if slices.ContainsFunc(cells, noCell) {
		return api.Value{}, api.ErrValue
	}
	return h.add(object{kind: api.KFunc, proto: proto, cells: slices.Clone(cells)})
}

// Proto answers a function's number in the program, and whether f is one.
func (h *Heap) Proto(f api.Value) (int, bool) {
	if o := h.find(api.KFunc, f); o != nil {
		return o.proto, true
	}
	return 0, false
}

// Cells answers a function's cells.
func (h *Heap) Cells(f api.Value) []api.Value {
	if o := h.find(api.KFunc, f); o != nil {
		return slices.Clone(o.cells)
	}
	return nil
}

// Cell answers a new cell that has v.
func (h *Heap) Cell(v api.Value) (api.Value, api.Errno) {
	if !h.made() {
		return api.Value{}, api.ErrNil
	}
	if !h.mayKeep(v) {
		return api.Value{}, api.ErrValue
	}
	return h.add(object{kind: api.KCell, value: v})
}

// Load answers what a cell has; nil, if c is none.
func (h *Heap) Load(c api.Value) api.Value {
	if o := h.find(api.KCell, c); o != nil {
		return o.value
	}
	return api.Value{}
}

// Store puts v into the cell c.
func (h *Heap) Store(c, v api.Value) api.Errno {
	if !h.made() {
		return api.ErrNil
	}
	o := h.find(api.KCell, c)
	if o == nil {
		return api.ErrObject
	}
	if !h.mayKeep(v) {
		return api.ErrValue
	}
	o.value = v
	h.note(c)
	return api.OK
}

// Thread answers a new thread.
func (h *Heap) Thread() (api.Value, api.Errno) {
	if !h.made() {
		return api.Value{}, api.ErrNil
	}
	return h.add(object{kind: api.KThread, thread: &api.Thread{}})
}

// State answers a thread's own state, to be read and changed; nil, if t is none.
func (h *Heap) State(t api.Value) *api.Thread {
	o := h.find(api.KThread, t)
	if o == nil {
		return nil
	}
	// Whoever has the state may change it.
	h.note(t)
	return o.thread
}
