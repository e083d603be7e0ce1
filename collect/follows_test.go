package collect_test

import (
	"fmt"
	"maps"
	"math/rand"
	"slices"
	"testing"

	"twinstep/api"
	"twinstep/collect"
	"twinstep/heap"
)

// follows_test.go: P15.5: a program at work, which has some values in hand and comes to others through those alone, is held against what is reached.

type world struct {
	t    *testing.T
	g    someone
	heap *heap.Heap
	c    *collect.Collector
	// hand is what the program has: the roots.
	hand []api.Value
	// births tells of each object that is there when it was made: how many had been made then.
	births map[api.Value]int
	made   int
	// doomed are those that were not reached when the cycle began, and were not told by Str since: by the end of it they must be gone.
	doomed map[api.Value]int
	// begun is how many had been made when the cycle began; told are texts that Str has told since.
	begun int
	told  map[api.Value]bool
	sum   worldSum
}

// worldSum is what the program has come to.
type worldSum struct{ freed, late, revived, again, cycles, amid int }

func newWorld(t *testing.T, seed int64, max int) *world {
	t.Helper()
	h := newHeap(t, max)
	return &world{t: t, g: someone{rand.New(rand.NewSource(seed))}, heap: h, c: newCollector(t, h), births: map[api.Value]int{}, doomed: map[api.Value]int{}, told: map[api.Value]bool{}}
}

// reached answers all that is reached from some values, by this test's own walk.
func reached(h *heap.Heap, roots []api.Value) map[api.Value]bool {
	seen := map[api.Value]bool{}
	var walk func(list []api.Value)
	walk = func(list []api.Value) {
		for _, v := range list {
			if h.Has(v) && !seen[v] {
				seen[v] = true
				walk(h.Kids(v))
			}
		}
	}
	walk(roots)
	return seen
}

// shot is what the heap tells of an object that can be told without its being noted.
func shot(h *heap.Heap, v api.Value) string {
	s, _ := h.Text(v)
	n, _ := h.Proto(v)
	return fmt.Sprint(s, n, h.Serial(v), h.Kids(v), h.Load(v), h.Meta(v), h.Len(v))
}

// took notes what a call has made, or told, and takes it in hand.
func (w *world) took(v api.Value, err api.Errno) {
	w.t.Helper()
	if err != api.OK {
		return
	}
	w.hand = append(w.hand, v)
	if _, old := w.births[v]; !old {
		w.made++
		w.births[v] = w.made
		if w.c.Phase() == 2 {
			w.sum.late++
		}
		return
	}
	// Only texts are told again.
	if _, ok := w.heap.Text(v); !ok {
		w.t.Fatal("made twice: ", v)
	}
	w.told[v] = true
	if _, ok := w.doomed[v]; ok {
		w.sum.revived++
		delete(w.doomed, v)
	}
}

// any answers a value that the program has in hand, or a small number.
func (w *world) any() api.Value {
	if len(w.hand) == 0 || w.g.Intn(6) == 0 {
		return num(int64(w.g.Intn(3)))
	}
	return w.hand[w.g.Intn(len(w.hand))]
}

// of answers a value in hand of a kind, if there is one.
func (w *world) of(kind api.Kind) api.Value {
	list := slices.DeleteFunc(slices.Clone(w.hand), func(v api.Value) bool { return v.Kind != kind })
	if len(list) == 0 {
		return none
	}
	return list[w.g.Intn(len(list))]
}

// vals answers some values in hand.
func (w *world) vals() []api.Value {
	var list []api.Value
	for range w.g.Intn(3) {
		list = append(list, w.any())
	}
	return list
}

// makes makes something, or asks Str for a text that may be there.
func (w *world) makes() {
	w.t.Helper()
	switch n := w.g.Intn(10); {
	case n < 3:
		w.took(w.heap.Table())
	case n < 6:
		w.took(w.heap.Str(w.g.text()))
	case n < 7:
		w.took(w.heap.Thread())
	case n < 8:
		if c := w.of(api.KCell); c != none {
			w.took(w.heap.Func(w.g.Intn(9), []api.Value{c}))
		}
	default:
		w.took(w.heap.Cell(w.any()))
	}
}

// changes changes something in hand.
func (w *world) changes() {
	switch w.g.Intn(7) {
	case 0:
		w.heap.SetMeta(w.of(api.KTable), w.of(api.KTable))
	case 1:
		w.heap.Store(w.of(api.KCell), w.any())
	case 2:
		if s := w.heap.State(w.of(api.KThread)); s != nil {
			*s = api.Thread{By: w.of(api.KThread).N, Vals: w.vals(), Levels: []api.Level{
				{Kind: api.LFrame, Frame: api.Frame{Closure: w.of(api.KFunc).N, Slots: w.vals(), Dots: w.vals(), Vals: w.vals(), Regs: w.vals()}},
			}}
		}
	case 3:
		w.heap.Set(w.of(api.KTable), w.any(), none)
	default:
		w.heap.Set(w.of(api.KTable), w.any(), w.any())
	}
}

// moves takes something in hand that something in hand leads to, or lets something go.
func (w *world) moves() {
	if len(w.hand) > 0 && w.g.Intn(2) == 0 {
		kids := w.heap.Kids(w.any())
		if len(kids) > 0 {
			w.hand = append(w.hand, kids[w.g.Intn(len(kids))])
		}
		return
	}
	for len(w.hand) > 6 || len(w.hand) > 0 && w.g.Intn(2) == 0 {
		at := w.g.Intn(len(w.hand))
		w.hand = slices.Delete(w.hand, at, at+1)
	}
}

// start begins a cycle, if none goes on.
func (w *world) start() {
	w.t.Helper()
	if w.c.Start(w.hand) != api.OK {
		return
	}
	w.begins()
}

func (w *world) begins() {
	w.begun, w.told, w.doomed = w.made, map[api.Value]bool{}, map[api.Value]int{}
	there := reached(w.heap, w.hand)
	for v, born := range w.births {
		if !there[v] {
			w.doomed[v] = born
		}
	}
}

// asked does some steps, or all; nothing that is reached may go, nor what is new, nor what Str has told.
func (w *world) asked(call func() (int, api.Errno), spared func(v api.Value) bool) {
	w.t.Helper()
	there, shots := reached(w.heap, w.hand), map[api.Value]string{}
	for v := range there {
		shots[v] = shot(w.heap, v)
	}
	cycles := w.c.Cycles()
	freed, err := call()
	gone := 0
	for v := range maps.Clone(w.births) {
		if w.heap.Has(v) {
			continue
		}
		if there[v] || spared(v) {
			w.t.Fatalf("%v was freed: reached %v, made %d of %d, told %v", v, there[v], w.births[v], w.begun, w.told[v])
		}
		delete(w.births, v)
		gone++
	}
	if freed != gone || err != api.OK || len(w.heap.Objects()) != len(w.births) {
		w.t.Fatalf("%d freed, %v, but %d are gone, and %d there", freed, err, gone, len(w.births))
	}
	for v, told := range shots {
		if now := shot(w.heap, v); now != told {
			w.t.Fatalf("%v was %s, is %s", v, told, now)
		}
	}
	w.sum.freed += freed
	w.ended(w.c.Cycles() - cycles)
}

// ended asks, if a cycle has come to its end, that all is gone that was not reached when it began.
func (w *world) ended(cycles int) {
	w.t.Helper()
	if cycles == 0 {
		return
	}
	w.sum.cycles++
	for v, born := range w.doomed {
		if w.births[v] == born {
			w.t.Fatalf("%v was not reached, and is there still", v)
		}
		if w.births[v] != 0 {
			w.sum.again++
		}
	}
}

// steps does some steps.
func (w *world) steps(n int) {
	w.t.Helper()
	w.asked(func() (int, api.Errno) { return w.c.Step(n, w.hand) }, func(v api.Value) bool { return w.births[v] > w.begun || w.told[v] })
}

// full does a whole cycle: just what is reached is there then.
func (w *world) full() {
	w.t.Helper()
	if w.c.Phase() != 0 {
		w.sum.amid++
	}
	w.begins()
	w.asked(func() (int, api.Errno) { return w.c.Full(w.hand) }, func(api.Value) bool { return false })
	there := reached(w.heap, w.hand)
	if len(there) != len(w.heap.Objects()) || w.c.Phase() != 0 {
		w.t.Fatalf("%d are reached, %d there", len(there), len(w.heap.Objects()))
	}
}

// turn is one turn of the program, and a call of the collector.
func (w *world) turn(eager int) {
	w.t.Helper()
	for range w.g.Intn(6) {
		switch w.g.Intn(3) {
		case 0:
			w.makes()
		case 1:
			w.changes()
		default:
			w.moves()
		}
	}
	for v := range reached(w.heap, w.hand) {
		for _, kid := range w.heap.Kids(v) {
			if !w.heap.Has(kid) {
				w.t.Fatalf("%v leads to %v, which is gone", v, kid)
			}
		}
	}
	switch n := w.g.Intn(60); {
	case n < 1:
		w.full()
	case n < 20:
		w.start()
	default:
		w.steps(1 + w.g.Intn(eager))
	}
}

// P15.5: the program at work, with steps of 1, of some, and of many.
func TestFollows(t *testing.T) {
	var sum worldSum
	for seed := range int64(60) {
		w := newWorld(t, seed, []int{30, 100, 1000}[seed%3])
		for range 1200 {
			w.turn([]int{1, 2, 5, 40}[seed%4])
		}
		sum.freed += w.sum.freed
		sum.late += w.sum.late
		sum.revived += w.sum.revived
		sum.again += w.sum.again
		sum.cycles += w.sum.cycles
		sum.amid += w.sum.amid
	}
	if sum.freed < 10000 || sum.late < 1000 || sum.revived < 500 || sum.again < 500 || sum.cycles < 2000 || sum.amid < 200 {
		t.Errorf("too little: %+v", sum)
	}
}

// P15.5: just the objects that are reached are there behind Full, whatever leads to what.
func TestFullReached(t *testing.T) {
	g := someone{rand.New(rand.NewSource(17))}
	freed, left := 0, 0
	for range 400 {
		h := newHeap(t, 300)
		c := newCollector(t, h)
		for range 60 {
			_, call := g.change(h.Objects())
			call(h)
		}
		all, roots := h.Objects(), g.values(h.Objects(), 4)
		there := reached(h, roots)
		n, err := c.Full(roots)
		want := slices.DeleteFunc(slices.Clone(all), func(v api.Value) bool { return !there[v] })
		if !slices.Equal(h.Objects(), want) || n != len(all)-len(want) || err != api.OK {
			t.Fatalf("Full(%v) = %d, %v: %v are there, not %v", roots, n, err, h.Objects(), want)
		}
		freed += n
		left += len(want)
	}
	if freed < 1000 || left < 1000 {
		t.Error("too little: ", freed, left)
	}
}

// P15.5: a full heap in which objects are made as the list is swept; what comes back as room is as much as was freed.
func TestRoomComes(t *testing.T) {
	h := newHeap(t, 60)
	c := newCollector(t, h)
	root, _ := h.Table()
	for h.Used() < 60 {
		h.Cell(none)
	}
	roots := []api.Value{root}
	c.Start(roots)
	made, freed := 0, 0
	for c.Phase() != 0 {
		n, _ := c.Step(1, roots)
		freed += n
		if _, err := h.Cell(root); err == api.OK {
			made++
		}
	}
	is(t, "made", []int{freed, made, h.Used(), c.Cycles()}, []int{58, 58, 60, 1})
	n, _ := c.Full(roots)
	is(t, "Full", n, 58)
	is(t, "Objects", h.Objects(), []api.Value{root})
}
