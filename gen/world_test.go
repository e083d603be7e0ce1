package gen_test

import (
	"fmt"
	"math"
	"math/rand"
	"slices"
	"strings"

	"twinstep/api"
)

// world_test.go: what statements do their things to: a frame's variables, and all that is asked, told line by line. Two walks do the same statement: one through its expressions, by chapter 19's words (this file's end), one through its list of instructions (walk_test.go).

// world is a frame, its cells, and what was asked of it so far. With chance nil each answer is a new object, and of a call two of them.
type world struct {
	p      api.Program
	f      api.Proto
	slots  []api.Value // raw: of a boxed one a cell, or nil
	cells  []api.Value // by their numbers, from 1 on
	ups    []int64     // the cells' numbers
	dots   []api.Value
	log    []string
	made   int64
	chance *rand.Rand
}

// raised is a panic's value: what a statement throws.
type raised struct{ what string }

// outcome is what a statement comes to: the next statement, or the values with which the function ends, or what is thrown.
type outcome struct {
	next  int
	ends  bool
	vals  []api.Value
	fault string
}

// newWorld answers a world for a function of p.
func newWorld(p api.Program, proto int, chance *rand.Rand) *world {
	w := &world{p: p, f: p.Protos[proto], chance: chance}
	for range w.f.Ups {
		w.ups = append(w.ups, w.cell(w.any()).N)
	}
	for slot := range w.f.Slots {
		v := w.any()
		if w.f.Boxed[slot] {
			v = w.cell(v)
			if chance != nil && chance.Intn(8) == 0 {
				v = api.Value{}
			}
		}
		w.slots = append(w.slots, v)
	}
	if w.f.More {
		w.dots = w.some()
	}
	w.log = nil
	return w
}

// any answers a value.
func (w *world) any() api.Value {
	w.made++
	if w.chance == nil {
		return api.Value{Kind: api.KTable, N: w.made}
	}
	switch w.chance.Intn(9) {
	case 0:
		return api.Value{}
	case 1:
		return api.Value{Kind: api.KFalse}
	case 2:
		return api.Value{Kind: api.KTrue}
	case 3, 4:
		return api.Value{Kind: api.KInt, N: int64(w.chance.Intn(5) - 2)}
	case 5:
		return api.Value{Kind: api.KInt, N: math.MaxInt64 - int64(w.chance.Intn(3))}
	}
	return api.Value{Kind: api.KTable, N: w.made}
}

// some answers as many values as a call may have.
func (w *world) some() []api.Value {
	count := 2
	if w.chance != nil {
		count = w.chance.Intn(6)
		if w.chance.Intn(25) == 0 {
			count = api.MaxVals - w.chance.Intn(3)
		}
	}
	var out []api.Value
	for range count {
		out = append(out, w.any())
	}
	return out
}

// tell adds a line to what was asked.
func (w *world) tell(what string, vals ...api.Value) {
	line := what
	for _, v := range vals {
		line += " " + nameOf(v)
	}
	w.log = append(w.log, line)
}

// ask tells something at which a function may be called: that may throw, and give variables that live in cells other values.
func (w *world) ask(what string, vals ...api.Value) {
	w.tell(what, vals...)
	if w.chance == nil {
		return
	}
	if len(w.cells) > 0 && w.chance.Intn(2) == 0 {
		w.cells[w.chance.Intn(len(w.cells))] = w.any()
	}
	if w.chance.Intn(100) == 0 {
		w.throw("by chance")
	}
}

func (w *world) throw(what string) { panic(raised{what}) }

// nameOf tells a value shortly.
func nameOf(v api.Value) string {
	switch v.Kind {
	case api.KNil:
		return "nil"
	case api.KFalse:
		return "false"
	case api.KTrue:
		return "true"
	}
	return fmt.Sprint(map[api.Kind]string{api.KInt: "", api.KStr: "s", api.KTable: "t", api.KFunc: "f", api.KCell: "c"}[v.Kind], v.N)
}

func isTrue(v api.Value) bool { return v.Kind != api.KNil && v.Kind != api.KFalse }

// adjust is frame.Adjust.
func adjust(vals []api.Value, want int) []api.Value {
	if want < 0 {
		return slices.Clone(vals)
	}
	out := make([]api.Value, want)
	copy(out, vals)
	return out
}

// cell makes a cell.
func (w *world) cell(v api.Value) api.Value {
	w.cells = append(w.cells, v)
	w.tell(fmt.Sprint("cell ", len(w.cells)), v)
	return api.Value{Kind: api.KCell, N: int64(len(w.cells))}
}

// get answers a slot's variable, by chapter 18's words: nil, where a cell is missing, or stands where none is asked.
func (w *world) get(slot int) api.Value {
	v := w.slots[slot]
	if w.f.Boxed[slot] != (v.Kind == api.KCell) {
		return api.Value{}
	}
	if v.Kind == api.KCell {
		return w.cells[v.N-1]
	}
	return v
}

func (w *world) set(slot int, v api.Value) {
	if raw := w.slots[slot]; w.f.Boxed[slot] && raw.Kind == api.KCell {
		w.cells[raw.N-1] = v
		return
	}
	w.fresh(slot, v)
}

func (w *world) fresh(slot int, v api.Value) {
	if w.f.Boxed[slot] {
		v = w.cell(v)
	}
	w.slots[slot] = v
}

func (w *world) up(n int64) api.Value       { return w.cells[w.ups[n]-1] }
func (w *world) setUp(n int64, v api.Value) { w.cells[w.ups[n]-1] = v }

// str makes a text.
func (w *world) str(n int64) api.Value {
	w.tell("str " + w.p.Strs[n])
	return api.Value{Kind: api.KStr, N: n}
}

func (w *world) global(n int64) api.Value {
	w.ask("global " + w.p.Strs[n])
	return w.any()
}

func (w *world) setGlobal(n int64, v api.Value) { w.ask("set global "+w.p.Strs[n], v) }

func (w *world) index(t, k api.Value) api.Value {
	w.ask("index", t, k)
	return w.any()
}

func (w *world) setIndex(t, k, v api.Value) { w.ask("set index", t, k, v) }

// method answers a function that an object has.
func (w *world) method(o api.Value, n int64) api.Value {
	w.ask("method "+w.p.Strs[n], o)
	return w.any()
}

func (w *world) op(n int64, vals ...api.Value) api.Value {
	w.ask(fmt.Sprint("op ", n), vals...)
	return w.any()
}

func (w *world) call(fn api.Value, args []api.Value) []api.Value {
	w.ask("call", append([]api.Value{fn}, args...)...)
	if len(args) > api.MaxVals {
		w.throw("too many values")
	}
	return w.some()
}

// function makes a function, of cells that are there.
func (w *world) function(n int64) api.Value {
	line := fmt.Sprint("function ", n)
	for _, up := range w.p.Protos[n].Ups {
		if !up.Local {
			line += fmt.Sprint(" c", w.ups[up.At])
		} else if raw := w.slots[up.At]; raw.Kind == api.KCell {
			line += " " + nameOf(raw)
		} else {
			w.throw("no such variable")
		}
	}
	w.tell(line)
	w.made++
	return api.Value{Kind: api.KFunc, N: w.made}
}

func (w *world) table() api.Value {
	w.tell("table")
	w.made++
	return api.Value{Kind: api.KTable, N: w.made}
}

// part sets a part of a table.
func (w *world) part(t, k, v api.Value) {
	if k.Kind == api.KNil {
		w.throw("index is nil")
	}
	if v.Kind != api.KNil {
		w.tell("part", t, k, v)
	}
}

func intOf(n int64) api.Value { return api.Value{Kind: api.KInt, N: n} }

// forPrep answers index, rounds, step.
func (w *world) forPrep(from, limit, step api.Value) (api.Value, api.Value, api.Value) {
	for i, v := range []api.Value{from, limit, step} {
		if v.Kind != api.KInt {
			w.throw([]string{"from", "limit", "step"}[i] + " is no number")
		}
	}
	up := step.N > 0
	switch {
	case step.N == 0:
		w.throw("step is zero")
	case up && from.N > limit.N || !up && from.N < limit.N:
		return api.Value{}, intOf(0), step
	}
	rounds := (uint64(limit.N) - uint64(from.N)) / uint64(step.N)
	if !up {
		rounds = (uint64(from.N) - uint64(limit.N)) / -uint64(step.N)
	}
	return from, intOf(int64(rounds)), step
}

// forStep answers index and rounds one round on; whether it was the last one.
func (w *world) forStep(index, rounds, step api.Value) (api.Value, api.Value, bool) {
	if rounds.N == 0 {
		return api.Value{}, rounds, true
	}
	return intOf(index.N + step.N), intOf(rounds.N - 1), false
}

// back ends the function.
func (w *world) back(vals []api.Value) outcome {
	if len(vals) > api.MaxVals {
		w.throw("too many values")
	}
	return outcome{ends: true, vals: vals}
}

// do answers what do comes to, or what it throws.
func (w *world) do(do func() outcome) (out outcome) {
	defer func() {
		if r := recover(); r != nil {
			e, ok := r.(raised)
			if !ok {
				panic(r)
			}
			out = outcome{fault: e.what}
		}
	}()
	return do()
}

// state tells all that is left: the variables too, as long as the function isn't at its end.
func (w *world) state(out outcome) string {
	var all strings.Builder
	fmt.Fprint(&all, strings.Join(w.log, "; "), "\ncells ", w.cells, "\n")
	if out.fault != "" {
		fmt.Fprint(&all, "throws ", out.fault)
	} else if out.ends {
		fmt.Fprint(&all, "returns ", out.vals)
	} else {
		fmt.Fprint(&all, "next ", out.next, " slots ", w.slots)
	}
	return all.String()
}

// Chapter 19's words.

// one answers what an expression comes to, one value.
func (w *world) one(place int) api.Value {
	e := w.f.Exprs[place]
	switch e.Kind {
	case api.ENil:
		return api.Value{}
	case api.ETrue:
		return api.Value{Kind: api.KTrue}
	case api.EFalse:
		return api.Value{Kind: api.KFalse}
	case api.EInt:
		return intOf(e.N)
	case api.EStr:
		return w.str(e.N)
	case api.EDots, api.ECall, api.EMethod:
		return adjust(w.many(place), 1)[0]
	case api.EFunc:
		return w.function(e.N)
	case api.ESlot:
		return w.get(int(e.N))
	case api.EUp:
		return w.up(e.N)
	case api.EGlobal:
		return w.global(e.N)
	case api.ETable:
		return w.tableOf(e)
	}
	first := w.one(e.Kids[0])
	switch {
	case e.Kind == api.EParen, e.Kind == api.EAnd && !isTrue(first), e.Kind == api.EOr && isTrue(first):
		return first
	case e.Kind == api.EUn:
		return w.op(e.N, first)
	}
	second := w.one(e.Kids[1])
	switch e.Kind {
	case api.EIndex:
		return w.index(first, second)
	case api.EBin:
		return w.op(e.N, first, second)
	}
	return second
}

// many answers what an expression comes to, as many values as there are.
func (w *world) many(place int) []api.Value {
	e := w.f.Exprs[place]
	switch e.Kind {
	case api.EDots:
		return w.dots
	case api.ECall:
		fn := w.one(e.Kids[0])
		return w.call(fn, w.list(e.Kids[1:]))
	case api.EMethod:
		object := w.one(e.Kids[0])
		fn := w.method(object, e.N)
		return w.call(fn, append([]api.Value{object}, w.list(e.Kids[1:])...))
	}
	return []api.Value{w.one(place)}
}

// list answers all values of a list.
func (w *world) list(places []int) []api.Value {
	var out []api.Value
	for i, place := range places {
		if i == len(places)-1 {
			out = append(out, w.many(place)...)
		} else {
			out = append(out, w.one(place))
		}
	}
	return out
}

func (w *world) tableOf(e api.Expr) api.Value {
	t, n := w.table(), int64(0)
	for i, place := range e.Kids {
		part := w.f.Exprs[place]
		if part.Kind == api.ENamed {
			key := w.one(part.Kids[0])
			w.part(t, key, w.one(part.Kids[1]))
			continue
		}
		vals := []api.Value(nil)
		if i == len(e.Kids)-1 {
			vals = w.many(part.Kids[0])
		} else {
			vals = append(vals, w.one(part.Kids[0]))
		}
		for _, v := range vals {
			n++
			w.part(t, intOf(n), v)
		}
	}
	return t
}

// stmt does a statement.
func (w *world) stmt(s api.Stmt) outcome {
	freshAll := func(slots []int, vals []api.Value) {
		for i, v := range adjust(vals, len(slots)) {
			w.fresh(slots[i], v)
		}
	}
	next := outcome{next: s.Next}
	switch s.Kind {
	case api.SLocal:
		freshAll(s.Slots, w.list(s.Exprs))
	case api.SAssign:
		w.assign(s)
	case api.SCall:
		w.many(s.Exprs[0])
	case api.STest:
		if !isTrue(w.one(s.Exprs[0])) {
			next.next = s.Else
		}
	case api.SForPrep, api.SForLoop, api.SInPrep, api.SInLoop:
		return w.loop(s)
	case api.SFunc:
		w.fresh(s.Slots[0], api.Value{})
		w.set(s.Slots[0], w.one(s.Exprs[0]))
	case api.SReturn:
		return w.back(w.list(s.Exprs))
	}
	return next
}

func (w *world) assign(s api.Stmt) {
	var ahead []api.Value
	for _, place := range s.Targets {
		if e := w.f.Exprs[place]; e.Kind == api.EIndex {
			table := w.one(e.Kids[0])
			ahead = append(ahead, table, w.one(e.Kids[1]))
		}
	}
	vals := adjust(w.list(s.Exprs), len(s.Targets))
	for i, place := range s.Targets {
		switch e := w.f.Exprs[place]; e.Kind {
		case api.ESlot:
			w.set(int(e.N), vals[i])
		case api.EUp:
			w.setUp(e.N, vals[i])
		case api.EGlobal:
			w.setGlobal(e.N, vals[i])
		case api.EIndex:
			w.setIndex(ahead[0], ahead[1], vals[i])
			ahead = ahead[2:]
		}
	}
}

func (w *world) loop(s api.Stmt) outcome {
	h := s.Slots[0]
	a, b, c := w.get(h), w.get(h+1), w.get(h+2)
	switch s.Kind {
	case api.SForPrep:
		vals := w.list(s.Exprs)
		if len(s.Exprs) == 2 {
			vals = append(adjust(vals, 2), intOf(1))
		}
		vals = adjust(vals, 3)
		a, b, c = w.forPrep(vals[0], vals[1], vals[2])
		w.fresh(h, a)
		w.fresh(h+1, b)
		w.fresh(h+2, c)
	case api.SInPrep:
		for i, v := range adjust(w.list(s.Exprs), 3) {
			w.fresh(h+i, v)
		}
	case api.SForLoop:
		if a.Kind != api.KInt {
			return outcome{next: s.Else}
		}
		w.fresh(s.Slots[1], a)
		index, rounds, last := w.forStep(a, b, c)
		w.set(h, index)
		if !last {
			w.set(h+1, rounds)
		}
	case api.SInLoop:
		vals := adjust(w.call(a, []api.Value{b, c}), len(s.Slots)-1)
		if vals[0].Kind == api.KNil {
			return outcome{next: s.Else}
		}
		w.set(h+2, vals[0])
		for i, v := range vals {
			w.fresh(s.Slots[1+i], v)
		}
	}
	return outcome{next: s.Next}
}
