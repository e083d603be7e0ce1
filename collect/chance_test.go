package collect_test

import (
	"fmt"
	"math"
	"math/rand"
	"reflect"
	"slices"
	"strings"
	"testing"

	"twinstep/api"
	"twinstep/heap"
)

// chance_test.go: long scripts by chance, against the plain collector.

// someone draws what a script hands in.
type someone struct{ *rand.Rand }

// value answers a value: of an object that is there mostly, reached or not.
func (g someone) value(list []api.Value) api.Value {
	switch n := g.Intn(12); {
	case n < 9 && len(list) > 0:
		return list[g.Intn(len(list))]
	case n < 10:
		return obj(api.Kind(g.Intn(11)), int64(g.Intn(20)-1))
	}
	return num(int64(g.Intn(4)))
}

// of answers the value of an object of a kind mostly.
func (g someone) of(list []api.Value, kind api.Kind) api.Value {
	list = slices.DeleteFunc(slices.Clone(list), func(v api.Value) bool { return v.Kind != kind })
	if len(list) == 0 || g.Intn(15) == 0 {
		return g.value(list)
	}
	return list[g.Intn(len(list))]
}

func (g someone) values(list []api.Value, most int) []api.Value {
	out := make([]api.Value, g.Intn(most+1))
	for at := range out {
		out[at] = g.value(list)
	}
	return out
}

func (g someone) text() string {
	if g.Intn(6) == 0 {
		return strings.Repeat("t", g.Intn(50))
	}
	return string(rune('a' + g.Intn(9)))
}

// state answers a thread's state.
func (g someone) state(list []api.Value) api.Thread {
	s := api.Thread{Status: api.Runs, By: int64(g.Intn(12) - 1), Vals: g.values(list, 2)}
	for range g.Intn(3) {
		s.Levels = append(s.Levels, api.Level{Kind: api.LFrame, Frame: api.Frame{
			Closure: int64(g.Intn(12) - 1), Slots: g.values(list, 2), Dots: g.values(list, 1), Vals: g.values(list, 1), Regs: g.values(list, 2),
		}})
	}
	return s
}

// change answers a call of heap's that makes or changes something, with its name; list: what there is.
func (g someone) change(list []api.Value) (string, func(*heap.Heap) (api.Value, api.Errno)) {
	v, k, text, state := g.value(list), g.value(list), g.text(), g.state(list)
	t, m, c, b := g.of(list, api.KTable), g.of(list, api.KTable), g.of(list, api.KCell), g.of(list, api.KThread)
	switch n := g.Intn(24); {
	case n < 3:
		return "Table", (*heap.Heap).Table
	case n < 6:
		return "Str", func(h *heap.Heap) (api.Value, api.Errno) { return h.Str(text) }
	case n < 8:
		return "Cell", func(h *heap.Heap) (api.Value, api.Errno) { return h.Cell(v) }
	case n < 10:
		return "Func", func(h *heap.Heap) (api.Value, api.Errno) { return h.Func(1, []api.Value{c, c}) }
	case n < 11:
		return "Thread", (*heap.Heap).Thread
	case n < 13:
		return "SetMeta", func(h *heap.Heap) (api.Value, api.Errno) { return none, h.SetMeta(t, m) }
	case n < 15:
		return "Store", func(h *heap.Heap) (api.Value, api.Errno) { return none, h.Store(c, v) }
	case n < 18:
		return "State", func(h *heap.Heap) (api.Value, api.Errno) {
			s := h.State(b)
			if s == nil {
				return none, api.ErrObject
			}
			*s = state
			return none, api.OK
		}
	case n < 19:
		k = none
	}
	return "Set", func(h *heap.Heap) (api.Value, api.Errno) { return none, h.Set(t, k, v) }
}

// steps answers how many steps are done at once.
func (g someone) steps() int {
	switch g.Intn(12) {
	case 0:
		return -g.Intn(3)
	case 1:
		return 20 + g.Intn(60)
	case 2:
		return []int{math.MaxInt, math.MaxInt32, math.MinInt}[g.Intn(3)]
	}
	return 1 + g.Intn(4)
}

// tally is what scripts have come to.
type tally struct{ changed, freed, cycles, refused, amid int }

// does makes one call of a script; most: of how many of 20 something is made or changed.
func (g someone) does(a *asked, most int, roots []api.Value, sum *tally) {
	a.t.Helper()
	list := a.heap.Objects()
	if g.Intn(5) == 0 {
		roots = g.values(list, 4)
	}
	switch n := g.Intn(24); {
	case n < most:
		if _, err := a.both(g.change(list)); err == api.OK && a.plain.phase != 0 {
			sum.changed++
		}
	case n < 20:
		sum.freed += a.step(g.steps(), roots...)
	case n < 23:
		if a.start(roots...) != api.OK {
			sum.refused++
		}
	default:
		if a.plain.phase != 0 {
			sum.amid++
		}
		if g.Intn(3) == 0 {
			sum.freed += a.full(roots...)
		}
	}
}

// Long scripts of heap's calls with Start, Step and Full between them: all is asked behind each call.
func TestScripts(t *testing.T) {
	g := someone{rand.New(rand.NewSource(15))}
	var sum tally
	for _, max := range []int{1, 8, 40, 120, 400} {
		for range 16 {
			a := begin(t, max)
			var roots []api.Value
			most := 10
			for at := range 400 {
				if at%30 == 0 {
					most = 4 + g.Intn(15)
					roots = g.values(a.heap.Objects(), 3)
				}
				g.does(a, most, roots, &sum)
			}
			sum.cycles += a.plain.cycles
		}
	}
	if sum.changed < 2000 || sum.freed < 2000 || sum.cycles < 500 || sum.refused < 100 || sum.amid < 100 {
		t.Errorf("scripts that do too little: %+v", sum)
	}
}

// Steps of any size come to the same as so many of 1.
func TestStepsAlike(t *testing.T) {
	g := someone{rand.New(rand.NewSource(16))}
	for range 300 {
		a, seed := begin(t, 200), g.Int63()
		b := begin(t, 200)
		for _, one := range []*asked{a, b} {
			g := someone{rand.New(rand.NewSource(seed))}
			for range 25 {
				name, call := g.change(one.heap.Objects())
				one.last = name
				call(one.heap)
				call(one.plain.heap)
			}
		}
		roots := g.values(a.heap.Objects(), 3)
		a.start(roots...)
		b.start(roots...)
		for a.c.Phase() != 0 {
			n, freed := g.Intn(9), 0
			for range n {
				freed += b.step(1, roots...)
			}
			is(t, "Step", a.step(n, roots...), freed)
			is(t, "Phase", a.c.Phase(), b.c.Phase())
			is(t, "Objects", a.heap.Objects(), b.heap.Objects())
			for _, v := range a.heap.Objects() {
				is(t, "Marked", a.c.Marked(v), b.c.Marked(v))
			}
			name, call := g.change(a.heap.Objects())
			a.both(name, call)
			b.both(name, call)
		}
	}
}

// told tells all that one answers of a script.
func told(t *testing.T, seed int64) []string {
	t.Helper()
	g := someone{rand.New(rand.NewSource(seed))}
	h := newHeap(t, 90)
	c := newCollector(t, h)
	var out []string
	for range 300 {
		list := h.Objects()
		roots := g.values(list, 3)
		switch g.Intn(12) {
		case 0:
			out = append(out, fmt.Sprint(c.Start(roots)))
		case 1, 2, 3:
			out = append(out, fmt.Sprint(c.Step(g.steps(), roots)))
		case 4:
			if g.Intn(3) == 0 {
				out = append(out, fmt.Sprint(c.Full(roots)))
			}
		default:
			_, call := g.change(list)
			out = append(out, fmt.Sprint(call(h)))
		}
		out = append(out, fmt.Sprint(c.Phase(), c.Cycles(), h.Objects(), h.Used()))
		for _, v := range list {
			out = append(out, fmt.Sprint(v, c.Marked(v)))
		}
	}
	return out
}

// R4: the same calls on two heaps are answered alike.
func TestAlike(t *testing.T) {
	for seed := range int64(60) {
		if one, two := told(t, seed), told(t, seed); !reflect.DeepEqual(one, two) {
			t.Fatal("not alike: ", seed)
		}
	}
}
