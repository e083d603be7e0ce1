package heap

import (
	"twinstep/api"
	"twinstep/table"
)

// Table answers a new table.
func (h *Heap) Table() (api.Value, api.Errno) {
	if !h.made() {
		return api.Value{}, api.ErrNil
	}
	return h.add(object{kind: api.KTable, table: table.New()})
}

// Get answers what the table t has under k; nil, if t is no table.
func (h *Heap) Get(t, k api.Value) api.Value {
	if o := h.find(api.KTable, t); o != nil {
		return o.table.Get(k)
	}
	return api.Value{}
}

// Set puts v into the table t under k.
func (h *Heap) Set(t, k, v api.Value) api.Errno {
	if !h.made() {
		return api.ErrNil
	}
	o := h.find(api.KTable, t)
	if o == nil {
		return api.ErrObject
	}
	if k.Kind == api.KNil || !h.mayKeep(k) || !h.mayKeep(v) {
		return api.ErrValue
	}
	grows := v.Kind != api.KNil && o.table.Get(k).Kind == api.KNil
	if grows && !h.hasRoom(keySize) {
		return api.ErrRoom
	}
	if err := o.table.Set(k, v); err != api.OK {
		return err
	}
	h.pool.Resize(int(t.N), o.size())
	h.note(t)
	return api.OK
}

// Next answers the key and the value behind k in the table t.
func (h *Heap) Next(t, k api.Value) (api.Value, api.Value, api.Errno) {
	if !h.made() {
		return api.Value{}, api.Value{}, api.ErrNil
	}
	o := h.find(api.KTable, t)
	if o == nil {
		return api.Value{}, api.Value{}, api.ErrObject
	}
	return o.table.Next(k)
}

// Len answers how many integers from 1 on have values in the table t.
func (h *Heap) Len(t api.Value) int64 {
	if o := h.find(api.KTable, t); o != nil {
		return o.table.Len()
	}
	return 0
}

// Meta answers the metatable of the table t; nil, if it has none.
func (h *Heap) Meta(t api.Value) api.Value {
	if o := h.find(api.KTable, t); o != nil {
		return o.meta
	}
	return api.Value{}
}

// SetMeta makes m, a table or nil, the metatable of t.
func (h *Heap) SetMeta(t, m api.Value) api.Errno {
	if !h.made() {
		return api.ErrNil
	}
	o := h.find(api.KTable, t)
	if o == nil {
		return api.ErrObject
	}
	if m != (api.Value{}) && h.find(api.KTable, m) == nil {
		return api.ErrValue
	}
	o.meta = m
	h.note(t)
	return api.OK
}
