package heap_test

import (
	"math"
	"testing"

	"twinstep/api"
)

// kids_test.go: P14.5 by hand.

func obj(kind api.Kind, n int64) api.Value { return api.Value{Kind: kind, N: n} }

// P14.5: texts lead nowhere, cells and functions to what they have.
func TestKidsSmall(t *testing.T) {
	a := begin(t, 200)
	s := a.aStr("s")
	a.leads(s)
	may, _ := someValues(a)
	for _, v := range may {
		c := a.aCell(v)
		if v.Kind >= api.KStr && v.Kind != api.KLib {
			a.leads(c, v)
		} else {
			a.leads(c)
		}
		a.free(c)
	}
	c, d := a.aCell(s), a.aCell(none)
	a.leads(a.aFunc(0))
	a.leads(a.aFunc(0, d, c, d), d, c, d)
	for _, v := range never() {
		a.leads(v)
	}
}

// P14.5: a table leads to its metatable, then to keys and values in order, those of dead places too, each as often as it stands there.
func TestKidsTable(t *testing.T) {
	a := begin(t, 200)
	x, m, s, f := a.aTable(), a.aTable(), a.aStr("s"), a.aFunc(0)
	a.leads(x)
	a.set(x, s, x)
	a.set(x, num(1), num(2))
	a.set(x, f, api.Value{Kind: api.KTrue})
	a.set(x, api.Value{Kind: api.KFalse}, s)
	a.set(x, api.Value{Kind: api.KLib, N: 1}, api.Value{Kind: api.KLib, N: 2})
	a.leads(x, s, x, f, s)
	a.setMeta(x, m)
	a.leads(x, m, s, x, f, s)
	a.set(x, s, none)
	a.set(x, f, none)
	a.leads(x, m, s, f, s)
	a.set(x, f, m)
	a.leads(x, m, s, f, m, s)
	a.set(x, num(2), s)
	a.leads(x, m, f, m, s, s)
	a.setMeta(x, none)
	a.free(s)
	a.leads(x, f, m, s, s)
	a.set(x, m, m)
	a.leads(x, f, m, s, s, m, m)
}

// P14.5: a thread leads to who resumed it, to its values, and to those of each level's frame, in order.
func TestKidsThread(t *testing.T) {
	a := begin(t, 200)
	b := a.aThread()
	a.leads(b)
	str, table, fn, cell := func(n int64) api.Value { return obj(api.KStr, n) }, func(n int64) api.Value { return obj(api.KTable, n) }, func(n int64) api.Value { return obj(api.KFunc, n) }, func(n int64) api.Value { return obj(api.KCell, n) }
	a.state(b, func(s *api.Thread) {
		*s = api.Thread{Status: api.Yields, By: 77, Vals: []api.Value{num(1), str(1), none, str(2)}}
	})
	a.leads(b, obj(api.KThread, 77), str(1), str(2))
	a.state(b, func(s *api.Thread) {
		s.Levels = []api.Level{
			{Kind: api.LFrame, Frame: api.Frame{
				Closure: 12, Proto: 3, Stmt: 4, Want: -1,
				Regs:  []api.Value{str(21), num(3)},
				Vals:  []api.Value{num(5), str(20)},
				Dots:  []api.Value{table(19), {Kind: api.KLib, N: 1}, table(18)},
				Slots: []api.Value{cell(17), none, cell(16)},
				Work:  []api.Task{{Kind: 5, A: 5, B: 5, C: 5}},
			}},
			{Kind: api.LCatch},
			{Kind: api.LFrame, Frame: api.Frame{Slots: []api.Value{str(30)}}},
			{Kind: api.LCatch, Frame: api.Frame{Closure: 31, Regs: []api.Value{str(32)}}},
			{Kind: 9, Frame: api.Frame{Closure: 33, Engine: 8, Dots: []api.Value{str(34)}}},
		}
	})
	a.leads(b, obj(api.KThread, 77), str(1), str(2),
		fn(12), cell(17), cell(16), table(19), table(18), str(20), str(21),
		str(30), fn(31), str(32), fn(33), str(34))
	a.state(b, func(s *api.Thread) { s.By, s.Vals = 0, nil })
	a.leads(b, fn(12), cell(17), cell(16), table(19), table(18), str(20), str(21), str(30), fn(31), str(32), fn(33), str(34))
	a.free(b)
	a.leads(b)
}

// P14.5: a thread leads to the values of objects that never were, whatever their numbers are, and to no value of another kind.
func TestKidsNever(t *testing.T) {
	a := begin(t, 20)
	b := a.aThread()
	list := never()
	a.state(b, func(s *api.Thread) {
		*s = api.Thread{By: math.MinInt64, Vals: list, Levels: []api.Level{{Frame: api.Frame{Closure: -1, Slots: list, Regs: list}}}}
	})
	var objects []api.Value
	for _, v := range list {
		switch v.Kind {
		case api.KStr, api.KTable, api.KFunc, api.KThread, api.KCell:
			objects = append(objects, v)
		}
	}
	want := append([]api.Value{obj(api.KThread, math.MinInt64)}, objects...)
	want = append(want, obj(api.KFunc, -1))
	a.leads(b, append(append(want, objects...), objects...)...)
}

// P14.5: a thread of many levels with many values.
func TestKidsMany(t *testing.T) {
	h := made(t, 10)
	b, _ := h.Thread()
	s := h.State(b)
	for n := int64(1); n <= 200; n++ {
		frame := api.Frame{Closure: n % 3}
		for m := range int64(50) {
			v := obj(api.KTable, 1000*n+m)
			frame.Slots, frame.Dots, frame.Vals, frame.Regs = append(frame.Slots, v), append(frame.Dots, num(m)), append(frame.Vals, none), append(frame.Regs, v)
		}
		s.Levels = append(s.Levels, api.Level{Kind: api.LFrame, Frame: frame})
	}
	kids := h.Kids(b)
	if len(kids) != 200*100+134 || kids[0] != obj(api.KFunc, 1) || kids[1] != obj(api.KTable, 1000) || kids[len(kids)-1] != obj(api.KTable, 200049) {
		t.Error(len(kids), kids[0], kids[1], kids[len(kids)-1])
	}
}
