package gen_test

import (
	"fmt"
	"math"
	"slices"
	"testing"

	"twinstep/api"
	"twinstep/gen"
)

// right_test.go: P10.1 by hand: what each instruction may have.

// The bench's function is 1 of a host: its slots are 0 to 4, its texts 0 and 1, its Ups 0 and 1; function 2 is within it.
const (
	benchSlots = 5
	benchRegs  = 13
)

// bench answers a host of three statements, and a code of its function 1 in the midst of whose list 1, from place 2 on, stand these instructions.
func bench(ins ...api.Ins) (api.Program, api.Code) {
	list := append([]api.Ins{{Op: api.IGo, A: 1}, {Op: api.INil, A: 5}}, ins...)
	list = append(list, api.Ins{Op: api.IFalse, A: 6}, api.Ins{Op: api.ITrue, A: 6}, api.Ins{Op: api.IGo, A: -1}, api.Ins{Op: api.IGo, A: 0})
	return host(jump(), jump(), returns(function(2))), api.Code{Regs: benchRegs, Ins: list, Start: []int{0, 1, len(list) - 1}}
}

// tellBench asks whether the bench with these instructions is a right code.
func tellBench(t *testing.T, want bool, ins ...api.Ins) {
	t.Helper()
	p, c := bench(ins...)
	tell(t, fmt.Sprint(ins), p, 1, c, want)
}

// within answers instructions in which in has the open list that it takes, and one that takes what it makes.
func within(in api.Ins) []api.Ins {
	out := []api.Ins{in}
	if in.Op == api.IPutAll || in.N == 1 && (in.Op == api.ICall || in.Op == api.IReturn) {
		out = append([]api.Ins{{Op: api.IDots, C: -1}}, out...)
	}
	if in.C == -1 && (in.Op == api.ICall || in.Op == api.IDots) {
		out = append(out, api.Ins{Op: api.ICall, A: 5, N: 1})
	}
	return out
}

// span is which numbers something may be.
type span struct{ least, most int64 }

func (s span) has(n int64) bool { return s.least <= n && n <= s.most }

var (
	only0   = span{0, 0}
	free1   = span{benchSlots, benchRegs - 1}
	free2   = span{benchSlots, benchRegs - 2}
	free3   = span{benchSlots, benchRegs - 3}
	slots   = span{0, benchSlots - 1}
	number  = span{math.MinInt64, math.MaxInt64}
	twoOf   = span{0, 1}
	fromOne = span{1, math.MaxInt64}
)

// rows are what instructions may have in the bench, each with one that is right there.
var rows = []struct {
	in         api.Ins
	a, b, c, n span
}{
	{in: api.Ins{Op: api.INil, A: 7}, a: free1},
	{in: api.Ins{Op: api.ITrue, A: 7}, a: free1},
	{in: api.Ins{Op: api.IFalse, A: 7}, a: free1},
	{in: api.Ins{Op: api.IInt, A: 7, N: 9}, a: free1, n: number},
	{in: api.Ins{Op: api.IStr, A: 7, N: 1}, a: free1, n: twoOf},
	{in: api.Ins{Op: api.IFunc, A: 7, N: 2}, a: free1, n: span{2, 2}},
	{in: api.Ins{Op: api.IGet, A: 7, B: 2}, a: free1, b: slots},
	{in: api.Ins{Op: api.ISet, A: 2, B: 7}, a: slots, b: free1},
	{in: api.Ins{Op: api.IFresh, A: 2, B: 7}, a: slots, b: free1},
	{in: api.Ins{Op: api.IUp, A: 7, N: 1}, a: free1, n: twoOf},
	{in: api.Ins{Op: api.ISetUp, A: 7, N: 1}, a: free1, n: twoOf},
	{in: api.Ins{Op: api.IGlobal, A: 7, N: 1}, a: free1, n: twoOf},
	{in: api.Ins{Op: api.ISetGlobal, A: 7, N: 1}, a: free1, n: twoOf},
	{in: api.Ins{Op: api.IIndex, A: 7, B: 8, C: 9}, a: free1, b: free1, c: free1},
	{in: api.Ins{Op: api.ISetIndex, A: 7, B: 8, C: 9}, a: free1, b: free1, c: free1},
	{in: api.Ins{Op: api.ISelf, A: 7, N: 1}, a: free2, n: twoOf},
	{in: api.Ins{Op: api.IBin, A: 7, B: 8, C: 9, N: 5}, a: free1, b: free1, c: free1, n: span{1, 17}},
	{in: api.Ins{Op: api.IUn, A: 7, B: 8, N: 19}, a: free1, b: free1, n: span{18, 21}},
	{in: api.Ins{Op: api.ITable, A: 7}, a: free1},
	{in: api.Ins{Op: api.IPut, A: 7, B: 8, C: 9}, a: free1, b: free1, c: free1},
	{in: api.Ins{Op: api.IPutAt, A: 7, B: 8, N: 3}, a: free1, b: free1, n: fromOne},
	{in: api.Ins{Op: api.IPutAll, A: 7, N: 3}, a: free1, n: fromOne},
	{in: api.Ins{Op: api.ITest, A: 7, B: 3, C: 4}, a: free1, b: span{3, 5}, c: span{3, 5}},
	{in: api.Ins{Op: api.INilTest, A: 7, B: 3, C: 4}, a: free1, b: span{3, 5}, c: span{3, 5}},
	{in: api.Ins{Op: api.IIntTest, A: 7, B: 3, C: 4}, a: free1, b: span{3, 5}, c: span{3, 5}},
	{in: api.Ins{Op: api.IForPrep, A: 7}, a: free3},
	{in: api.Ins{Op: api.IForStep, A: 7, B: 3, C: 4}, a: free3, b: span{3, 5}, c: span{3, 5}},
	{in: api.Ins{Op: api.IGo, A: 1}, a: span{-1, 2}},
	// The open list beside, and what a call and a return have whatever their counts are.
	{in: api.Ins{Op: api.IDots, C: -1}, a: only0, c: span{-1, 0}},
	{in: api.Ins{Op: api.IDots, A: 7, C: 0}, a: span{benchSlots, benchRegs}, c: span{0, 6}},
	{in: api.Ins{Op: api.IDots, A: 7, C: 1}, a: free1, c: span{0, 6}},
	{in: api.Ins{Op: api.IDots, A: 7, C: 3}, a: free3, c: span{0, 6}},
	{in: api.Ins{Op: api.ICall, A: 7}, a: free1, b: span{0, 5}, c: span{-1, 6}, n: twoOf},
	{in: api.Ins{Op: api.ICall, A: 7, N: 1}, a: free1, b: span{0, 5}, c: span{-1, 6}, n: twoOf},
	{in: api.Ins{Op: api.ICall, A: 7, B: 2, C: -1}, a: free3, b: span{0, 5}, c: span{-1, 6}, n: twoOf},
	{in: api.Ins{Op: api.ICall, A: 7, B: 2, C: 1, N: 1}, a: free3, b: span{0, 5}, c: span{-1, 6}, n: twoOf},
	{in: api.Ins{Op: api.ICall, A: 7, B: 0, C: 3}, a: free3, b: span{0, 5}, c: span{-1, 6}, n: twoOf},
	{in: api.Ins{Op: api.IReturn}, a: only0, b: only0, n: twoOf},
	{in: api.Ins{Op: api.IReturn, N: 1}, a: only0, b: only0, n: twoOf},
	{in: api.Ins{Op: api.IReturn, A: 7, B: 1}, a: free1, b: span{1, 6}, n: twoOf},
	{in: api.Ins{Op: api.IReturn, A: 7, B: 3, N: 1}, a: free3, b: span{1, 6}, n: twoOf},
}

// numbers are what each of A, B, C and N is tried with.
func numbers() []int64 {
	out := []int64{math.MinInt64, math.MinInt64 + 5, math.MinInt32, -200, 199, 200, 201, 202, 256, 257, 261, 1 << 16, 1 << 31, 1 << 32, 1<<32 + 1, 1<<32 + 7, math.MaxInt64 - 2, math.MaxInt64 - 1, math.MaxInt64}
	for n := int64(-3); n < 30; n++ {
		out = append(out, n)
	}
	return out
}

// P10.1: what each instruction has, at its least, its greatest, and beyond both; and what it has not, at another number than 0.
func TestRows(t *testing.T) {
	seen := map[api.InsOp]bool{}
	for _, row := range rows {
		seen[row.in.Op] = true
		tellBench(t, true, within(row.in)...)
		for _, n := range numbers() {
			in := row.in
			in.A = int(n)
			tellBench(t, row.a.has(n), within(in)...)
			in = row.in
			in.B = int(n)
			tellBench(t, row.b.has(n), within(in)...)
			in = row.in
			in.C = int(n)
			// Of an IDots that is not open a register is asked.
			tellBench(t, row.c.has(n) && (in.Op != api.IDots || n != 0 || in.A >= benchSlots), within(in)...)
			in = row.in
			in.N = n
			tellBench(t, row.n.has(n), within(in)...)
		}
	}
	for op := range 256 {
		if (op >= 1 && op <= 31) != seen[api.InsOp(op)] {
			t.Error("no row of Op ", op)
		}
		if op < 1 || op > 31 {
			tellBench(t, false, api.Ins{Op: api.InsOp(op)})
			tellBench(t, false, api.Ins{Op: api.InsOp(op), A: 7})
			tellBench(t, false, api.Ins{Op: api.InsOp(op), A: 7, B: 7, C: 7, N: 1})
		}
	}
}

// P10.1: IFunc: of all functions only those that this one is around; in a function without any, none.
func TestInner(t *testing.T) {
	p := host()
	for proto, within := range [][]int64{{1, 3}, {2}, nil, nil} {
		p.Protos[proto].Stmts = append(p.Protos[proto].Stmts, api.Stmt{Kind: api.SJump, Next: -1, Line: 1})
		p.Protos[proto].Start = 0
		rightly(t, p)
		for n := int64(-2); n < 6; n++ {
			slots := p.Protos[proto].Slots
			c := api.Code{Regs: slots + 1, Ins: []api.Ins{{Op: api.IFunc, A: slots, N: n}, {Op: api.IGo, A: -1}}, Start: []int{0}}
			for range p.Protos[proto].Stmts[1:] {
				c.Start = append(c.Start, len(c.Ins))
				c.Ins = append(c.Ins, api.Ins{Op: api.IGo, A: -1})
			}
			tell(t, fmt.Sprint("IFunc ", n), p, proto, c, slices.Contains(within, n))
		}
	}
}

// P10.1: a function that has no slots, texts or Ups.
func TestNothingThere(t *testing.T) {
	p := alone(0, jump())
	p.Strs = nil
	for _, in := range []api.Ins{
		{Op: api.IGet}, {Op: api.ISet}, {Op: api.IFresh}, {Op: api.IStr}, {Op: api.IGlobal}, {Op: api.ISetGlobal}, {Op: api.ISelf},
		{Op: api.IUp}, {Op: api.ISetUp}, {Op: api.IFunc}, {Op: api.IGo, A: 1}, {Op: api.INil, A: 2}, {Op: api.INil, A: -1},
	} {
		tell(t, fmt.Sprint(in), p, 0, api.Code{Regs: 2, Ins: []api.Ins{in, {Op: api.IGo}}, Start: []int{0}}, false)
	}
	for _, in := range []api.Ins{{Op: api.INil}, {Op: api.INil, A: 1}, {Op: api.IDots, A: 2}, {Op: api.IDots, C: 2}, {Op: api.IReturn, B: 2}, {Op: api.ICall, B: 1, C: 2}} {
		tell(t, fmt.Sprint(in), p, 0, api.Code{Regs: 2, Ins: []api.Ins{in, {Op: api.IGo}}, Start: []int{0}}, true)
	}
	// Without More there may be an IDots, too: its Dots are none.
	few := host(returns(function(2)))
	few.Protos[1].More = false
	tell(t, "IDots without More", few, 1, api.Code{Regs: 6, Ins: []api.Ins{{Op: api.IDots, A: 5, C: 1}, {Op: api.IReturn}}, Start: []int{0}}, true)
}

// P10.1: as many registers as IDots, ICall and IReturn take, each way to have them, in a code of so many Regs.
func TestCounts(t *testing.T) {
	p := alone(3, jump())
	for _, regs := range []int{3, 4, 7} {
		for a := -1; a < 10; a++ {
			for b := -2; b < 7; b++ {
				for c := -2; c < 7; c++ {
					for n := range int64(3) {
						spare := regs - a
						flag := n < 2
						free := a >= 3 && spare > 0
						call := free && flag && b >= 0 && b < spare && c >= -1 && c <= spare
						tellIn(t, p, regs, api.Ins{Op: api.ICall, A: a, B: b, C: c, N: n}, call)
						back := flag && c == 0 && (b == 0 && a == 0 || free && b > 0 && b <= spare)
						tellIn(t, p, regs, api.Ins{Op: api.IReturn, A: a, B: b, C: c, N: n}, back)
						dots := b == 0 && n == 0 && (c == -1 && a == 0 || c == 0 && a >= 3 && spare >= 0 || free && c > 0 && c <= spare)
						tellIn(t, p, regs, api.Ins{Op: api.IDots, A: a, B: b, C: c, N: n}, dots)
					}
				}
			}
		}
	}
}

// tellIn asks whether a code of p's function 0, which has one statement and three slots, of so many registers is right with in.
func tellIn(t *testing.T, p api.Program, regs int, in api.Ins, want bool) {
	t.Helper()
	c := api.Code{Regs: regs, Ins: within(in), Start: []int{0}}
	// What takes the open list is no call here: of that no register is there for sure.
	if last := len(c.Ins) - 1; in.C == -1 && c.Ins[last].Op == api.ICall && c.Ins[last] != in {
		c.Ins[last] = api.Ins{Op: api.IReturn, N: 1}
	}
	c.Ins = append(c.Ins, api.Ins{Op: api.IGo, A: -1})
	tell(t, fmt.Sprint(regs, in), p, 0, c, want)
}

// P10.1: IDots, ICall and IReturn at their limits, at the first free register, at the last one from which on there are enough, and at the next one.
func TestGreatCounts(t *testing.T) {
	p := alone(3, jump())
	const regs = 1000
	for _, it := range []struct {
		in    api.Ins
		takes int // registers
		may   bool
	}{
		{api.Ins{Op: api.IDots, C: 1}, 1, true},
		{api.Ins{Op: api.IDots, C: 199}, 199, true},
		{api.Ins{Op: api.IDots, C: 200}, 200, true},
		{api.Ins{Op: api.IDots, C: 201}, 201, false},
		{api.Ins{Op: api.IDots, C: 0}, 0, true},
		{api.Ins{Op: api.ICall, B: 0}, 1, true},
		{api.Ins{Op: api.ICall, B: 200}, 201, true},
		{api.Ins{Op: api.ICall, B: 201}, 202, true},
		{api.Ins{Op: api.ICall, B: 202}, 203, false},
		{api.Ins{Op: api.ICall, B: 201, N: 1}, 202, true},
		{api.Ins{Op: api.ICall, B: 202, N: 1}, 203, false},
		{api.Ins{Op: api.ICall, B: 201, N: 1, C: -1}, 202, true},
		{api.Ins{Op: api.ICall, B: 201, N: 2}, 202, false},
		{api.Ins{Op: api.ICall, B: 201, C: 200}, 202, true},
		{api.Ins{Op: api.ICall, B: 201, C: 201}, 202, false},
		{api.Ins{Op: api.ICall, C: 199}, 199, true},
		{api.Ins{Op: api.ICall, C: 200}, 200, true},
		{api.Ins{Op: api.ICall, C: 201}, 201, false},
		{api.Ins{Op: api.ICall, C: 200, N: 1}, 200, true},
		{api.Ins{Op: api.ICall, C: -1}, 1, true},
		{api.Ins{Op: api.ICall, C: -2}, 1, false},
		{api.Ins{Op: api.IReturn, B: 1}, 1, true},
		{api.Ins{Op: api.IReturn, B: 199}, 199, true},
		{api.Ins{Op: api.IReturn, B: 200}, 200, true},
		{api.Ins{Op: api.IReturn, B: 201}, 201, false},
		{api.Ins{Op: api.IReturn, B: 200, N: 1}, 200, true},
		{api.Ins{Op: api.IReturn, B: 201, N: 1}, 201, false},
		{api.Ins{Op: api.IReturn, B: 200, N: 2}, 200, false},
	} {
		for a, is := range map[int]bool{2: false, 3: it.may, 4: it.may, regs - it.takes: it.may, regs - it.takes + 1: false, math.MaxInt: false, math.MaxInt - 100: false, math.MinInt: false, -1: false} {
			it.in.A = a
			tellIn(t, p, regs, it.in, is)
		}
	}
}

// P10.1: R6: lists that are empty are as such that are not there; and functions that there are not.
func TestNoFunction(t *testing.T) {
	none := alone(0)
	for _, c := range []api.Code{{}, {Ins: []api.Ins{}, Start: []int{}}, {Regs: 8192}} {
		tell(t, "no statement", none, 0, c, true)
	}
	one := api.Code{Ins: []api.Ins{{Op: api.IGo, A: -1}}, Start: []int{0}}
	for what, c := range map[string]api.Code{
		"an instruction in no list": {Ins: one.Ins}, "a list of no statement": one, "a place alone": {Start: []int{0}},
		"Regs below 0": {Regs: -1}, "too many Regs": {Regs: 8193},
	} {
		tell(t, what, none, 0, c, false)
	}
	p := alone(0, jump())
	tell(t, "a jump", p, 0, one, true)
	for _, proto := range []int{math.MinInt, -1, 1, 2, 200, math.MaxInt} {
		tell(t, "no such function", p, proto, one, false)
	}
	p.Protos[0].Stmts[0].Line = 0
	tell(t, "no right program", p, 0, one, false)
	for _, proto := range []int{-1, 0, 1} {
		tell(t, "no program", api.Program{}, proto, one, false)
		tell(t, "no program, no code", api.Program{}, proto, api.Code{}, false)
	}
	if gen.Right(host(), 3, one) || !gen.Right(host(), 3, api.Code{}) || gen.Right(host(), 4, api.Code{}) {
		t.Error("the last function")
	}
}
