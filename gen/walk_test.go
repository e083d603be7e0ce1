package gen_test

import (
	"fmt"
	"math/rand"
	"slices"
	"testing"

	"twinstep/api"
	"twinstep/gen"
)

// walk_test.go: a walk through a list of instructions, by the words of chapter 10's table; and what is asked of what Gen makes.

// walker is a register frame at work in one list.
type walker struct {
	*world
	regs []api.Value
	vals []api.Value
	pc   int
}

// free answers a register that is none of a slot.
func (k *walker) free(n int) *api.Value {
	if n < k.f.Slots {
		panic(fmt.Sprint("a slot's register ", n))
	}
	return &k.regs[n]
}

// run does a statement's list, from its beginning on.
func (w *world) run(c api.Code, stmt int) outcome {
	k := walker{world: w, regs: make([]api.Value, c.Regs), pc: c.Start[stmt]}
	end := len(c.Ins)
	if stmt+1 < len(c.Start) {
		end = c.Start[stmt+1]
	}
	for {
		if k.pc >= end {
			panic("out of the list")
		}
		in, at := c.Ins[k.pc], k.pc
		k.pc++
		switch in.Op {
		case api.IGo:
			return outcome{next: in.A}
		case api.IReturn:
			return w.back(append(slices.Clone(k.regs[in.A:in.A+in.B]), k.open(in)...))
		}
		if !k.load(in) && !k.store(in) && !k.callOrTest(in) {
			panic(fmt.Sprint("no such instruction ", in))
		}
		if k.pc <= at {
			panic("it goes back")
		}
	}
}

// open answers the open list, if in takes it.
func (k *walker) open(in api.Ins) []api.Value {
	if in.N == 0 && in.Op != api.IPutAll {
		return nil
	}
	vals := k.vals
	k.vals = nil
	return vals
}

// load does what changes registers alone.
func (k *walker) load(in api.Ins) bool {
	reg := func(n int) api.Value { return *k.free(n) }
	var v api.Value
	switch in.Op {
	case api.INil:
	case api.ITrue:
		v.Kind = api.KTrue
	case api.IFalse:
		v.Kind = api.KFalse
	case api.IInt:
		v = intOf(in.N)
	case api.IStr:
		v = k.str(in.N)
	case api.IFunc:
		v = k.function(in.N)
	case api.IGet:
		v = k.get(in.B)
	case api.IUp:
		v = k.up(in.N)
	case api.IGlobal:
		v = k.global(in.N)
	case api.IIndex:
		v = k.index(reg(in.B), reg(in.C))
	case api.ISelf:
		object := reg(in.A)
		*k.free(in.A + 1) = object
		v = k.method(object, in.N)
	case api.IBin:
		v = k.op(in.N, reg(in.B), reg(in.C))
	case api.IUn:
		v = k.op(in.N, reg(in.B))
	case api.ITable:
		v = k.table()
	case api.IForPrep:
		v, *k.free(in.A + 1), *k.free(in.A + 2) = k.forPrep(reg(in.A), reg(in.A+1), reg(in.A+2))
	default:
		return false
	}
	*k.free(in.A) = v
	return true
}

// store does what changes variables, globals and tables.
func (k *walker) store(in api.Ins) bool {
	reg := func(n int) api.Value { return *k.free(n) }
	switch in.Op {
	case api.ISet:
		k.set(in.A, reg(in.B))
	case api.IFresh:
		k.fresh(in.A, reg(in.B))
	case api.ISetUp:
		k.setUp(in.N, reg(in.A))
	case api.ISetGlobal:
		k.setGlobal(in.N, reg(in.A))
	case api.ISetIndex:
		k.setIndex(reg(in.A), reg(in.B), reg(in.C))
	case api.IPut:
		k.part(reg(in.A), reg(in.B), reg(in.C))
	case api.IPutAt:
		k.part(reg(in.A), intOf(in.N), reg(in.B))
	case api.IPutAll:
		for i, v := range k.open(in) {
			k.part(reg(in.A), intOf(in.N+int64(i)), v)
		}
	default:
		return false
	}
	return true
}

// callOrTest does calls, the open list, and tests.
func (k *walker) callOrTest(in api.Ins) bool {
	on := func(is bool) bool {
		k.pc = in.C
		if is {
			k.pc = in.B
		}
		return true
	}
	var vals []api.Value
	switch in.Op {
	case api.IDots:
		vals = k.dots
	case api.ICall:
		args := append(slices.Clone(k.regs[in.A+1:in.A+1+in.B]), k.open(in)...)
		vals = k.call(*k.free(in.A), args)
	case api.ITest:
		return on(isTrue(*k.free(in.A)))
	case api.INilTest:
		return on(k.free(in.A).Kind == api.KNil)
	case api.IIntTest:
		return on(k.free(in.A).Kind == api.KInt)
	case api.IForStep:
		index, rounds, last := k.forStep(*k.free(in.A), *k.free(in.A + 1), *k.free(in.A + 2))
		*k.free(in.A), *k.free(in.A + 1) = index, rounds
		return on(last)
	default:
		return false
	}
	if in.C < 0 {
		k.vals = slices.Clone(vals)
		return true
	}
	for i, v := range adjust(vals, in.C) {
		*k.free(in.A + i) = v
	}
	return true
}

// made answers the code that Gen makes of a function, which is asked to be right, made alike once more, and to share nothing.
func made(t *testing.T, what string, p api.Program, proto int) api.Code {
	t.Helper()
	before := copied(p)
	c, err := gen.Gen(p, proto)
	again, _ := gen.Gen(p, proto)
	if err != api.OK {
		t.Fatalf("%s: function %d: %v: %s", short(what), proto, err, short(shown(p)))
	}
	kept := copiedCode(again)
	for i := range c.Ins[:cap(c.Ins)] {
		c.Ins[:cap(c.Ins)][i].N++
	}
	for i := range c.Start[:cap(c.Start)] {
		c.Start[:cap(c.Start)][i]++
	}
	if shown(p) != shown(before) {
		t.Fatalf("%s: function %d: Gen has changed or kept what it was handed", short(what), proto)
	}
	if shownCode(again) != shownCode(kept) {
		t.Fatalf("%s: function %d: two codes share memory", short(what), proto)
	}
	c, _ = gen.Gen(p, proto)
	if fmt.Sprint(c) != fmt.Sprint(again) {
		t.Fatalf("%s: function %d: not alike: %v, %v", short(what), proto, c, again)
	}
	if not := toldWrong(p, proto, c); not != "" || !gen.Right(p, proto, c) {
		t.Fatalf("%s: function %d: the code is not right (Right: %v; the second reading: %q): %s", short(what), proto, gen.Right(p, proto, c), not, short(shownCode(c)))
	}
	onward(t, what, c)
	selves(t, what, p.Protos[proto], c)
	return c
}

// onward asks P10.3: that in each list every way goes on to a later instruction of that list, or ends.
func onward(t *testing.T, what string, c api.Code) {
	t.Helper()
	bounds := append(slices.Clone(c.Start), len(c.Ins))
	for i, begin := range c.Start {
		for at := begin; at < bounds[i+1]; at++ {
			ways := []int{at + 1}
			switch in := c.Ins[at]; in.Op {
			case api.IGo, api.IReturn:
				ways = nil
			case api.ITest, api.INilTest, api.IIntTest, api.IForStep:
				ways = []int{in.B, in.C}
			}
			for _, to := range ways {
				if to <= at || to >= bounds[i+1] {
					t.Fatalf("%s: from %d on to %d in the list from %d to %d: %v", short(what), at, to, begin, bounds[i+1], c)
				}
			}
		}
	}
}

// selves asks that each statement's list has an ISelf for each EMethod.
func selves(t *testing.T, what string, f api.Proto, c api.Code) {
	t.Helper()
	bounds := append(slices.Clone(c.Start), len(c.Ins))
	for i, s := range f.Stmts {
		want, got := 0, 0
		work := slices.Concat(s.Targets, s.Exprs)
		for len(work) > 0 {
			e := f.Exprs[work[0]]
			work = append(work[1:], e.Kids...)
			if e.Kind == api.EMethod {
				want++
			}
		}
		for _, in := range c.Ins[bounds[i]:bounds[i+1]] {
			if in.Op == api.ISelf {
				got++
			}
		}
		if got != want {
			t.Fatalf("%s: statement %d: %d ISelf for %d EMethods", short(what), i, got, want)
		}
	}
}

// alike asks P10.2: that each statement of each function does the same both ways, in so many worlds each; and answers how many statements came to what.
func alike(t *testing.T, what string, p api.Program, worlds int) map[string]int {
	t.Helper()
	seen := map[string]int{}
	for proto := range rightly(t, p).Protos {
		alikeBy(t, what, p, proto, made(t, what, p, proto), worlds, seen)
	}
	return seen
}

// alikeBy asks P10.2 of a code of one function.
func alikeBy(t *testing.T, what string, p api.Program, proto int, c api.Code, worlds int, seen map[string]int) {
	t.Helper()
	for n, s := range p.Protos[proto].Stmts {
		for seed := range worlds {
			by := func() *rand.Rand {
				if seed == 0 {
					return nil
				}
				return rand.New(rand.NewSource(int64(seed)))
			}
			a, b := newWorld(p, proto, by()), newWorld(p, proto, by())
			told := a.do(func() outcome { return a.stmt(s) })
			got := b.do(func() outcome { return b.run(c, n) })
			if want, has := a.state(told), b.state(got); want != has {
				t.Fatalf("%s: function %d, statement %d %v, world %d:\n%s\nits list\n%s\n%s", short(what), proto, n, s, seed, short(want), short(has), short(shownCode(c)))
			}
			seen[fmt.Sprint("statement ", s.Kind)]++
			switch {
			case told.fault != "":
				seen[told.fault]++
			case told.ends:
				seen["ends"]++
			case told.next == s.Else:
				seen["else"]++
			default:
				seen["next"]++
			}
		}
	}
}
