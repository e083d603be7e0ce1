package maps_test

import (
	"fmt"
	"math"
	"math/rand"
	"reflect"
	"slices"
	"testing"

	"twinstep/api"
	"twinstep/gen"
	"twinstep/maps"
	"twinstep/right"
)

// wrong_test.go: P11.1 and P11.2: programs and codes that are not right.

// both is a text whose functions have all that a function may have.
const both = "local a, b = 1, {x = 2, ...} function f(c, ...) for i = 1, c do a = i + #b end for k in f, ... do if k and a then return k:m(b[k], ...) end end local function g() return g, a end end goto l ::l:: f(b)"

// numbersIn answers where the numbers of what is pointed at are, but for those that may be any number.
func numbersIn(of any) []reflect.Value {
	var out []reflect.Value
	var walk func(v reflect.Value)
	walk = func(v reflect.Value) {
		switch v.Kind() {
		case reflect.Int:
			out = append(out, v)
		case reflect.Slice:
			for i := range v.Len() {
				walk(v.Index(i))
			}
		case reflect.Struct:
			for i := range v.NumField() {
				walk(v.Field(i))
			}
		}
	}
	walk(reflect.ValueOf(of).Elem())
	return out
}

// P11.1, P11.2: programs that are not right: of none of their functions anything is told, whichever one it is that is wrong.
func TestWrongPrograms(t *testing.T) {
	p := program(t, both)
	var codes []api.Code
	for proto := range p.Protos {
		codes = append(codes, made(t, p, proto))
		tied(t, both, p, proto, codes[proto])
	}
	nothing := func(what string, p api.Program) {
		t.Helper()
		if right.Right(p) {
			t.Fatal(what, ": the program is right")
		}
		for proto := -1; proto <= len(codes); proto++ {
			if got := maps.Cost(p, proto); got != 0 {
				t.Errorf("%s: Cost of function %d = %d", what, proto, got)
			}
			refused(t, what, p, proto, codes[min(max(proto, 0), len(codes)-1)])
			refused(t, what, p, proto, api.Code{})
		}
	}
	for i, at := range numbersIn(&p) {
		was := at.Int()
		for _, n := range []int64{-2, -3, math.MinInt32, math.MinInt64, math.MaxInt64} {
			if at.SetInt(n); !right.Right(p) { // a Line may be as great as any
				nothing(fmt.Sprint("number ", i, " is ", n), p)
			} else if n < 0 {
				t.Error("number ", i, " may be ", n)
			}
		}
		at.SetInt(was)
	}
	nothing("no function", api.Program{Strs: p.Strs})
	nothing("a text twice", api.Program{Strs: append(slices.Clone(p.Strs), p.Strs[0]), Protos: p.Protos})
	nothing("a function too few", api.Program{Strs: p.Strs, Protos: p.Protos[:2]})
	nothing("functions in another order", api.Program{Strs: p.Strs, Protos: []api.Proto{p.Protos[1], p.Protos[0], p.Protos[2]}})
	for proto := range p.Protos {
		tied(t, "as it was", p, proto, codes[proto])
	}
}

// P11.1, P11.2: functions that there are not.
func TestNoFunction(t *testing.T) {
	noFunctions(t, "no program", api.Program{})
	for _, text := range texts() {
		noFunctions(t, text, program(t, text))
	}
}

// P11.1, P11.2: numbers of codes below 0, far too great, and a few others.
func TestNumbers(t *testing.T) {
	p := program(t, both)
	for proto := range p.Protos {
		c := copied(made(t, p, proto))
		wrong := 0
		for i, at := range numbersIn(&c) {
			was := at.Int()
			for _, n := range []int64{math.MinInt64, math.MinInt32, -2, -1, 0, was - 1, was + 1, math.MaxInt32, math.MaxInt64} {
				at.SetInt(n)
				is := asked(t, fmt.Sprint("number ", i, " of the code is ", n), p, proto, c)
				if !is {
					wrong++
				} else if n < -1 || n == math.MaxInt64 {
					t.Error("number ", i, " of the code may be ", n)
				}
			}
			at.SetInt(was)
		}
		for i := range c.Ins {
			was := c.Ins[i]
			for _, n := range []int64{math.MinInt64, -1, was.N + 1, math.MaxInt64} {
				c.Ins[i].N = n
				asked(t, fmt.Sprint("N of instruction ", i, " is ", n), p, proto, c)
			}
			c.Ins[i] = was
			for op := range 40 {
				c.Ins[i].Op = api.InsOp(op)
				if is := asked(t, fmt.Sprint("Op of instruction ", i, " is ", op), p, proto, c); is && (op == 0 || op > 31) {
					t.Error("an Op may be ", op)
				}
			}
			c.Ins[i] = was
		}
		if wrong < 50 {
			t.Error("too few are wrong: ", wrong)
		}
		tied(t, "as it was", p, proto, c)
	}
}

// P11.1, P11.2: lists that are not as they have to be.
func TestWrongCodes(t *testing.T) {
	p := bare(t, 3, 2)
	good := code(list(plain(30), on), list(fork(2, 1), plain(1), back), list(plain(3), on))
	tied(t, "good", p, 0, good)
	for what, spoil := range map[string]func(c *api.Code){
		"nothing":                    func(c *api.Code) { *c = api.Code{} },
		"no instruction":             func(c *api.Code) { c.Ins = nil },
		"no place":                   func(c *api.Code) { c.Start = nil },
		"a list too few":             func(c *api.Code) { c.Start = c.Start[:2] },
		"a list too many":            func(c *api.Code) { c.Start = append(c.Start, 36) },
		"an empty list":              func(c *api.Code) { c.Start[1] = c.Start[2] },
		"an empty last list":         func(c *api.Code) { c.Start[2] = len(c.Ins) },
		"lists that go down":         func(c *api.Code) { c.Start[1], c.Start[2] = c.Start[2], c.Start[1] },
		"an instruction ahead":       func(c *api.Code) { c.Start[0] = 1 },
		"a place below 0":            func(c *api.Code) { c.Start[0] = -1 },
		"a list without an end":      func(c *api.Code) { c.Ins[30] = plain(1)[0] },
		"the last one without it":    func(c *api.Code) { c.Ins = c.Ins[:len(c.Ins)-1] },
		"a test at the end":          func(c *api.Code) { c.Ins[30] = api.Ins{Op: api.ITest, A: 1, B: 31, C: 31} },
		"a test that goes to itself": func(c *api.Code) { c.Ins[31].B = 31 },
		"a test that goes back":      func(c *api.Code) { c.Ins[31].C = 0 },
		"a test out of its list":     func(c *api.Code) { c.Ins[31].C = 34 },
		"a test out of all lists":    func(c *api.Code) { c.Ins[31].B = len(c.Ins) },
		"an IGo to no statement":     func(c *api.Code) { c.Ins[30].A = 3 },
		"an Op that there is not":    func(c *api.Code) { c.Ins[5].Op = 32 },
		"Op 0":                       func(c *api.Code) { c.Ins[5].Op = 0 },
		"a slot as a register":       func(c *api.Code) { c.Ins[5].A = 0 },
		"too few registers":          func(c *api.Code) { c.Regs = 1 },
		"too many registers":         func(c *api.Code) { c.Regs = 1 + 2*4096 + 1 },
		"Regs below 0":               func(c *api.Code) { c.Regs = -1 },
		"an open list not taken":     func(c *api.Code) { c.Ins[5] = api.Ins{Op: api.IDots, C: -1} },
		"what was not made taken":    func(c *api.Code) { c.Ins[30] = api.Ins{Op: api.IReturn, N: 1} },
	} {
		c := copied(good)
		spoil(&c)
		refused(t, what, p, 0, c)
		if gen.Right(p, 0, c) {
			t.Error(what, " is right")
		}
	}
	for what, spoil := range map[string]func(c *api.Code){
		"one register more":     func(c *api.Code) { c.Regs++ },
		"the first statement":   func(c *api.Code) { c.Ins[30].A = 0 },
		"a return":              func(c *api.Code) { c.Ins[30] = back[0] },
		"as many registers":     func(c *api.Code) { c.Regs = 1 + 2*4096 },
		"an end in the midst":   func(c *api.Code) { c.Ins[9] = on[0] },
		"another number":        func(c *api.Code) { c.Ins[5] = api.Ins{Op: api.IInt, A: 7, N: math.MinInt64} },
		"a test in a long list": func(c *api.Code) { c.Ins[5] = api.Ins{Op: api.ITest, A: 7, B: 30, C: 7} },
	} {
		c := copied(good)
		spoil(&c)
		tied(t, what, p, 0, c)
	}
	empty := bare(t, 0, 0)
	refused(t, "an instruction in no list", empty, 0, api.Code{Regs: 1, Ins: on})
	refused(t, "a list of no statement", empty, 0, api.Code{Regs: 1, Ins: on, Start: []int{0}})
	refused(t, "a place in nothing", empty, 0, api.Code{Regs: 1, Start: []int{0}})
	refused(t, "nothing, without a register for the slot", empty, 0, api.Code{})
	tied(t, "lists that are empty", empty, 0, api.Code{Regs: 1, Ins: []api.Ins{}, Start: []int{}})
}

// P11.1, P11.2: codes of other functions.
func TestOthers(t *testing.T) {
	wasRight, wasWrong := 0, 0
	all := append(texts(), both)
	for i, text := range all {
		p := program(t, text)
		other := program(t, all[(i+1)%len(all)])
		for own := range p.Protos {
			c := made(t, p, own)
			for proto := range p.Protos {
				if asked(t, text, p, proto, c) {
					wasRight++
				} else {
					wasWrong++
				}
			}
			for proto := range other.Protos {
				asked(t, text, other, proto, c)
			}
		}
	}
	if wasRight < len(all) || wasWrong < 40 {
		t.Error("too few of one sort: ", wasRight, wasWrong)
	}
	p := program(t, both)
	for own := range p.Protos {
		for proto := range p.Protos {
			if own != proto {
				refused(t, "of another function", p, proto, made(t, p, own))
			}
		}
	}
}

// P11.1, P11.2: codes with a few changes by chance.
func TestSpoilt(t *testing.T) {
	g := rand.New(rand.NewSource(3))
	wasRight, wasWrong := 0, 0
	for range 10000 {
		count := 1 + g.Intn(3)
		var lists [][]api.Ins
		for range count {
			lists = append(lists, chanceList(g, 1+g.Intn(30)))
		}
		p, c := bare(t, count, 0), code(lists...)
		for range 1 + g.Intn(3) {
			at := numbersIn(&c)
			one := at[g.Intn(len(at))]
			one.SetInt(one.Int() + int64(g.Intn(5)) - 2)
			in, other := &c.Ins[g.Intn(len(c.Ins))], &c.Ins[g.Intn(len(c.Ins))]
			switch g.Intn(5) {
			case 0:
				*in, *other = *other, *in
			case 1:
				*in = *other
			case 2:
				c.Ins = c.Ins[:len(c.Ins)-g.Intn(2)]
			}
			if len(c.Ins) == 0 {
				break
			}
		}
		if asked(t, "spoilt", p, 0, c) {
			wasRight++
		} else {
			wasWrong++
		}
	}
	if min(wasRight, wasWrong) < 1500 {
		t.Error("too few of one sort: ", wasRight, wasWrong)
	}
}
