package heap_test

import (
	"slices"

	"twinstep/api"
)

// plain_test.go: the chapter's words once more, of a plain list of objects.

const (
	mostObjects = 65536
	greatest    = 1 << 24
)

var none api.Value

func num(n int64) api.Value { return api.Value{Kind: api.KInt, N: n} }

type place struct{ key, value api.Value }

// thing is an object of the plain list.
type thing struct {
	kind   api.Kind
	n      int64
	serial int64
	text   string
	places []place
	meta   api.Value
	proto  int
	cells  []api.Value
	has    api.Value
	state  api.Thread
}

func (x *thing) value() api.Value { return api.Value{Kind: x.kind, N: x.n} }

func (x *thing) at(k api.Value) int {
	return slices.IndexFunc(x.places, func(p place) bool { return p.key == k })
}

func (x *thing) get(k api.Value) api.Value {
	if at := x.at(k); at >= 0 {
		return x.places[at].value
	}
	return none
}

func dead(p place) bool { return p.value == none }

func (x *thing) live() []place { return slices.DeleteFunc(slices.Clone(x.places), dead) }

func (x *thing) length() int64 {
	n := int64(0)
	for x.get(num(n+1)) != none {
		n++
	}
	return n
}

func (x *thing) next(k api.Value) (api.Value, api.Value, api.Errno) {
	from := 0
	if k.Kind != api.KNil {
		at := x.at(k)
		if at < 0 {
			return none, none, api.ErrArg
		}
		from = at + 1
	}
	for _, p := range x.places[from:] {
		if !dead(p) {
			return p.key, p.value, api.OK
		}
	}
	return none, none, api.OK
}

func (x *thing) size() int {
	return map[api.Kind]int{
		api.KStr:    1 + len(x.text)/16,
		api.KTable:  2 + 2*len(x.live()),
		api.KFunc:   2 + len(x.cells),
		api.KThread: 8,
		api.KCell:   1,
	}[x.kind]
}

// kids answers all that stands in an object, but what is no object.
func (x *thing) kids() []api.Value {
	var list []api.Value
	switch x.kind {
	case api.KTable:
		list = append(list, x.meta)
		for _, p := range x.places {
			list = append(list, p.key, p.value)
		}
	case api.KFunc:
		list = slices.Clone(x.cells)
	case api.KCell:
		list = append(list, x.has)
	case api.KThread:
		list = threadKids(x.state)
	}
	return slices.DeleteFunc(list, func(v api.Value) bool {
		return v.Kind < api.KStr || v.Kind == api.KLib || v.Kind > api.KCell
	})
}

func threadKids(s api.Thread) []api.Value {
	var list []api.Value
	if s.By != 0 {
		list = append(list, api.Value{Kind: api.KThread, N: s.By})
	}
	list = append(list, s.Vals...)
	for _, l := range s.Levels {
		if l.Frame.Closure != 0 {
			list = append(list, api.Value{Kind: api.KFunc, N: l.Frame.Closure})
		}
		list = slices.Concat(list, l.Frame.Slots, l.Frame.Dots, l.Frame.Vals, l.Frame.Regs)
	}
	return list
}

// plain is what a heap is to answer.
type plain struct {
	max     int
	things  []*thing
	serials int64
	watched bool
	noted   []*thing
}

// find answers the object of v, whatever its kind is; nil, if there is none.
func (l *plain) find(v api.Value) *thing {
	for _, x := range l.things {
		if x.value() == v {
			return x
		}
	}
	return nil
}

func (l *plain) findKind(kind api.Kind, v api.Value) *thing {
	if x := l.find(v); x != nil && x.kind == kind {
		return x
	}
	return nil
}

func (l *plain) used() int {
	used := 0
	for _, x := range l.things {
		used += x.size()
	}
	return used
}

// values answers the values of all objects, by rising numbers.
func (l *plain) values() []api.Value { return rising(l.things) }

func rising(things []*thing) []api.Value {
	var list []api.Value
	for _, x := range things {
		list = append(list, x.value())
	}
	slices.SortFunc(list, func(v, w api.Value) int { return int(v.N - w.N) })
	return slices.Compact(list)
}

func (l *plain) note(x *thing) {
	if l.watched {
		l.noted = append(l.noted, x)
	}
}

func (l *plain) keeps(v api.Value) bool {
	switch v.Kind {
	case api.KNil, api.KFalse, api.KTrue:
		return v.N == 0
	case api.KInt, api.KLib:
		return true
	case api.KStr, api.KTable, api.KFunc, api.KThread:
		return l.find(v) != nil
	}
	return false
}

// add puts a thing in, if there is room for it.
func (l *plain) add(x *thing) (api.Value, api.Errno) {
	if l.used()+x.size() > l.max || len(l.things) == mostObjects {
		return none, api.ErrRoom
	}
	for x.n = 1; slices.ContainsFunc(l.things, func(y *thing) bool { return y.n == x.n }); x.n++ {
	}
	if slices.Contains([]api.Kind{api.KTable, api.KFunc, api.KThread}, x.kind) {
		l.serials++
		x.serial = l.serials
	}
	l.things = append(l.things, x)
	l.note(x)
	return x.value(), api.OK
}

func (l *plain) known(s string) *thing {
	for _, x := range l.things {
		if x.kind == api.KStr && x.text == s {
			return x
		}
	}
	return nil
}

func (l *plain) str(s string) (api.Value, api.Errno) {
	if len(s) > 65535 {
		return none, api.ErrLong
	}
	if x := l.known(s); x != nil {
		l.note(x)
		return x.value(), api.OK
	}
	return l.add(&thing{kind: api.KStr, text: s})
}

func (l *plain) fn(proto int, cells []api.Value) (api.Value, api.Errno) {
	wrong := proto < 0 || len(cells) > 60
	for _, c := range cells {
		wrong = wrong || l.findKind(api.KCell, c) == nil
	}
	if wrong {
		return none, api.ErrValue
	}
	return l.add(&thing{kind: api.KFunc, proto: proto, cells: slices.Clone(cells)})
}

func (l *plain) cell(v api.Value) (api.Value, api.Errno) {
	if !l.keeps(v) {
		return none, api.ErrValue
	}
	return l.add(&thing{kind: api.KCell, has: v})
}

func (l *plain) set(t, k, v api.Value) api.Errno {
	x := l.findKind(api.KTable, t)
	switch {
	case x == nil:
		return api.ErrObject
	case k.Kind == api.KNil || !l.keeps(k) || !l.keeps(v):
		return api.ErrValue
	case v != none && x.get(k) == none && l.used()+2 > l.max:
		return api.ErrRoom
	}
	at := x.at(k)
	switch {
	case at >= 0:
		x.places[at].value = v
	case v != none && len(x.live()) == mostObjects:
		return api.ErrFull
	case v != none:
		x.places = append(x.live(), place{k, v})
	}
	l.note(x)
	return api.OK
}

func (l *plain) setMeta(t, m api.Value) api.Errno {
	x := l.findKind(api.KTable, t)
	switch {
	case x == nil:
		return api.ErrObject
	case m != none && l.findKind(api.KTable, m) == nil:
		return api.ErrValue
	}
	x.meta = m
	l.note(x)
	return api.OK
}

func (l *plain) store(c, v api.Value) api.Errno {
	x := l.findKind(api.KCell, c)
	switch {
	case x == nil:
		return api.ErrObject
	case !l.keeps(v):
		return api.ErrValue
	}
	x.has = v
	l.note(x)
	return api.OK
}

func (l *plain) free(v api.Value) api.Errno {
	x := l.find(v)
	if x == nil {
		return api.ErrObject
	}
	l.things = slices.DeleteFunc(l.things, func(y *thing) bool { return y == x })
	return api.OK
}

func (l *plain) watch(on bool) { l.watched, l.noted = on, nil }

func (l *plain) dirty() []api.Value {
	gone := func(x *thing) bool { return !slices.Contains(l.things, x) }
	list := rising(slices.DeleteFunc(l.noted, gone))
	l.noted = nil
	return list
}
