package heap

import (
	"twinstep/api"
	"twinstep/table"
)

// What objects take.
const (
	textSize   = 1
	bytesEach  = 16 // so many bytes of a text take 1 more
	tableSize  = 2
	keySize    = 2 // each key that has a value
	funcSize   = 2 // and 1 each cell
	cellSize   = 1
	threadSize = 8
)

// object is a thing of some kind; it has the fields of that kind alone.
type object struct {
	kind api.Kind
	// serial is 0 of texts and cells.
	serial int64

	// text: a text's bytes.
	text string
	// table, meta: a table's keys and values, and its metatable's value.
	table *table.Table
	meta  api.Value
	// proto, cells: a function's number, and its outer variables.
	proto int
	cells []api.Value
	// value: what a cell has.
	value api.Value
	// thread: a thread's state, which others have, too.
	thread *api.Thread
}

// isObject tells whether the values of a kind are those of objects.
func isObject(kind api.Kind) bool {
	switch kind {
	case api.KStr, api.KTable, api.KFunc, api.KThread, api.KCell:
		return true
	}
	return false
}

// size answers what an object takes.
func (o *object) size() int {
	switch o.kind {
	case api.KStr:
		return textSize + len(o.text)/bytesEach
	case api.KTable:
		return tableSize + keySize*o.table.Count()
	case api.KFunc:
		return funcSize + len(o.cells)
	case api.KCell:
		return cellSize
	}
	return threadSize
}

// tell hands each value that an object has to one, in their order.
func (o *object) tell(one func(api.Value)) {
	all := func(list []api.Value) {
		for _, v := range list {
			one(v)
		}
	}
	switch o.kind {
	case api.KTable:
		one(o.meta)
		all(o.table.Values())
	case api.KFunc:
		all(o.cells)
	case api.KCell:
		one(o.value)
	case api.KThread:
		tellThread(o.thread, one, all)
	}
}

// tellThread hands each value of a thread's state to one, or a list of them to all.
func tellThread(t *api.Thread, one func(api.Value), all func([]api.Value)) {
	number := func(kind api.Kind, n int64) {
		if n != 0 {
			one(api.Value{Kind: kind, N: n})
		}
	}
	number(api.KThread, t.By)
	all(t.Vals)
	for i := range t.Levels {
		f := &t.Levels[i].Frame
		number(api.KFunc, f.Closure)
		all(f.Slots)
		all(f.Dots)
		all(f.Vals)
		all(f.Regs)
	}
}
