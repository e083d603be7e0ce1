package heap_test

import (
	"fmt"
	"math/rand"
	"reflect"
	"slices"
	"strings"
	"testing"

	"twinstep/api"
	"twinstep/heap"
)

// chance_test.go: long scripts by chance, and P14.7.

// someone draws what a script hands in.
type someone struct{ *rand.Rand }

// value answers a value: of an object that is there mostly, one that was, or what may not be.
func (g someone) value(a *asked) api.Value {
	switch n := g.Intn(20); {
	case n < 11 && len(a.plain.things) > 0:
		return a.plain.things[g.Intn(len(a.plain.things))].value()
	case n < 13:
		return a.values[g.Intn(len(a.values))]
	case n < 15:
		return none
	case n < 16:
		return never()[g.Intn(len(never()))]
	}
	return num(int64(g.Intn(6)))
}

// of answers the value of an object of a kind mostly.
func (g someone) of(a *asked, kind api.Kind) api.Value {
	var list []api.Value
	for _, x := range a.plain.things {
		if x.kind == kind {
			list = append(list, x.value())
		}
	}
	if len(list) == 0 || g.Intn(12) == 0 {
		return g.value(a)
	}
	return list[g.Intn(len(list))]
}

func (g someone) list(a *asked, most int) []api.Value {
	list := make([]api.Value, g.Intn(most+1))
	for i := range list {
		list[i] = g.value(a)
	}
	return list
}

func (g someone) text() string {
	if g.Intn(6) == 0 {
		return strings.Repeat("t", g.Intn(70))
	}
	return string(rune('a' + g.Intn(12)))
}

// change answers what a script does to a thread's state.
func (g someone) change(a *asked) func(*api.Thread) {
	list, dots, n, at := g.list(a, 3), g.list(a, 2), int64(g.Intn(4)), g.Intn(3)
	return func(s *api.Thread) {
		switch {
		case at == 0:
			s.By, s.Vals, s.Status = n, slices.Clone(list), api.Runs
		case at == 1 || len(s.Levels) == 0:
			s.Levels = append(s.Levels, api.Level{Kind: api.LFrame, Frame: api.Frame{Closure: n, Slots: slices.Clone(list), Regs: slices.Clone(dots)}})
		default:
			s.Levels[len(s.Levels)-1].Frame = api.Frame{Closure: -n, Dots: slices.Clone(dots), Vals: slices.Clone(list)}
		}
		if len(s.Levels) > 6 {
			s.Levels = s.Levels[:2]
		}
	}
}

// makes makes something.
func (g someone) makes(a *asked) {
	a.t.Helper()
	switch g.Intn(7) {
	case 0, 1:
		a.str(g.text())
	case 2:
		a.thread()
	case 3:
		cells := make([]api.Value, g.Intn(4))
		for i := range cells {
			cells[i] = g.of(a, api.KCell)
		}
		a.fn(g.Intn(20)-1, cells...)
	case 4:
		a.cell(g.value(a))
	default:
		a.table()
	}
}

// does makes one call of a script; tend is how many of 20 make something.
func (g someone) does(a *asked, tend int) {
	a.t.Helper()
	if g.Intn(20) < tend {
		g.makes(a)
		return
	}
	switch n := g.Intn(40); {
	case n < 16:
		a.set(g.of(a, api.KTable), g.value(a), g.value(a))
	case n < 20:
		a.setMeta(g.of(a, api.KTable), g.of(a, api.KTable))
	case n < 24:
		a.store(g.of(a, api.KCell), g.value(a))
	case n < 28:
		a.state(g.of(a, api.KThread), g.change(a))
	case n < 31:
		a.dirty()
	case n < 32:
		a.watch(g.Intn(4) > 0)
	default:
		a.free(g.value(a))
	}
}

// Long scripts of all calls against the plain list: all is asked behind each call.
func TestScripts(t *testing.T) {
	g := someone{rand.New(rand.NewSource(14))}
	for _, max := range []int{1, 3, 12, 40, 90, 1000} {
		for range 4 {
			a := begin(t, max)
			tend := 10
			for at := range 250 {
				if at%40 == 0 {
					tend = 2 + g.Intn(12)
				}
				g.does(a, tend)
				sizesComeTo(a)
			}
		}
	}
}

// sizesComeTo holds what a heap answers against itself: no two objects have one number, Used is what the sizes come to, and not above Max.
func sizesComeTo(a *asked) {
	a.t.Helper()
	h, used, numbers := a.heap, 0, map[int64]int{}
	for _, v := range h.Objects() {
		numbers[v.N]++
		used += sizeOf(h, v)
	}
	for n, count := range numbers {
		if count != 1 || n < 1 || n > mostObjects {
			a.t.Fatalf("behind %s: %d objects have the number %d", a.last, count, n)
		}
	}
	if used != h.Used() || used > h.Max() {
		a.t.Fatalf("behind %s: the sizes come to %d, Used is %d of %d", a.last, used, h.Used(), h.Max())
	}
}

// sizeOf answers an object's size by what the heap tells of it.
func sizeOf(h *heap.Heap, v api.Value) int {
	switch v.Kind {
	case api.KStr:
		s, _ := h.Text(v)
		return 1 + len(s)/16
	case api.KTable:
		size := 2
		for k, _, _ := h.Next(v, none); k != none; k, _, _ = h.Next(v, k) {
			size += 2
		}
		return size
	case api.KFunc:
		return 2 + len(h.Cells(v))
	case api.KCell:
		return 1
	}
	return 8
}

// shot is all that a heap tells of an object, as a text.
func shot(h *heap.Heap, v api.Value) string {
	s, isText := h.Text(v)
	n, isFunc := h.Proto(v)
	told := fmt.Sprintf("%v %q %v %v %v %v %v %v %v %v %v", h.Has(v), s, isText, n, isFunc, h.Cells(v), h.Load(v), h.Serial(v), h.Kids(v), h.Meta(v), h.Len(v))
	for k, w, err := h.Next(v, none); k != none; k, w, err = h.Next(v, k) {
		told += fmt.Sprint(k, w, err)
	}
	if state := h.State(v); state != nil {
		told += fmt.Sprint(*state)
	}
	return told
}

// P14.7: what is put into an object is there until a call that names that object, asked of the answers alone.
func TestNothingElse(t *testing.T) {
	g := someone{rand.New(rand.NewSource(15))}
	kept := 0
	for range 20 {
		h := made(t, 300)
		shots := map[api.Value]string{}
		for range 400 {
			named := g.changes(t, h)
			for v, told := range shots {
				if v == named {
					continue
				}
				kept++
				if now := shot(h, v); now != told {
					t.Fatalf("%v was %s, is %s, though %v was named", v, told, now, named)
				}
			}
			shots[named] = shot(h, named)
			if !h.Has(named) {
				delete(shots, named)
			}
		}
	}
	if kept < 100000 {
		t.Error("too little is kept: ", kept)
	}
}

// changes makes a call, and answers the value of the only object that it may have changed, made or freed.
func (g someone) changes(t *testing.T, h *heap.Heap) api.Value {
	t.Helper()
	list := h.Objects()
	pick := func() api.Value {
		if len(list) == 0 || g.Intn(3) == 0 {
			return num(int64(g.Intn(5)))
		}
		return list[g.Intn(len(list))]
	}
	v := pick()
	switch g.Intn(12) {
	case 0:
		v, _ = h.Str(g.text())
	case 1:
		v, _ = h.Table()
	case 2:
		v, _ = h.Cell(pick())
	case 3:
		v, _ = h.Thread()
	case 4:
		v, _ = h.Func(g.Intn(9), []api.Value{pick()})
	case 5:
		h.SetMeta(v, pick())
	case 6:
		h.Store(v, pick())
	case 7:
		h.Free(v)
	case 8:
		if s := h.State(v); s != nil {
			s.Vals = []api.Value{pick()}
		}
	default:
		h.Set(v, pick(), pick())
	}
	return v
}

// answers makes calls by chance, and tells all that was answered.
func answers(t *testing.T, h *heap.Heap, g someone) []string {
	t.Helper()
	var out []string
	h.Watch(true)
	for range 200 {
		v := g.changes(t, h)
		out = append(out, fmt.Sprint(v, h.Objects(), h.Used(), shot(h, v)))
		if g.Intn(5) == 0 {
			out = append(out, fmt.Sprint(h.Dirty()))
		}
	}
	return out
}

// R4: the same calls on two heaps are answered alike.
func TestAlike(t *testing.T) {
	for seed := range int64(40) {
		one := answers(t, made(t, 100), someone{rand.New(rand.NewSource(seed))})
		two := answers(t, made(t, 100), someone{rand.New(rand.NewSource(seed))})
		if !reflect.DeepEqual(one, two) {
			t.Fatal("not alike: ", seed)
		}
	}
}

// P14.7: many objects, made and freed by chance, have the least numbers that are free.
func TestManyByChance(t *testing.T) {
	g := someone{rand.New(rand.NewSource(16))}
	h := made(t, greatest)
	there := map[int64]api.Value{}
	free := []int64{}
	for n := range 30000 {
		if n%3 != 2 || len(there) == 0 {
			v, err := h.Cell(num(int64(n)))
			want := int64(len(there) + 1)
			if len(free) > 0 {
				want = free[0]
				free = free[1:]
			}
			if err != api.OK || v.N != want {
				t.Fatal(n, v, err, want)
			}
			there[v.N] = num(int64(n))
			continue
		}
		gone := int64(1 + g.Intn(len(there)+len(free)))
		_, has := there[gone]
		if err := h.Free(obj(api.KCell, gone)); (err == api.OK) != has {
			t.Fatal(n, gone, err)
		}
		if at, _ := slices.BinarySearch(free, gone); has {
			free = slices.Insert(free, at, gone)
			delete(there, gone)
		}
	}
	for n, v := range there {
		if h.Load(obj(api.KCell, n)) != v {
			t.Fatal(n, v)
		}
	}
	if h.Used() != len(there) || len(h.Objects()) != len(there) {
		t.Error(h.Used(), len(there))
	}
}
