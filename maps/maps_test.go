package maps_test

import (
	"fmt"
	"math"
	"math/rand"
	"slices"
	"testing"

	"twinstep/api"
	"twinstep/gen"
	"twinstep/maps"
)

// maps_test.go: P11.1 to P11.4 by hand and of texts.

// Chapter 11, examples.
func TestExamples(t *testing.T) {
	p := program(t, "local x = 1")
	c := api.Code{Regs: 2, Ins: []api.Ins{{Op: api.IInt, A: 1, N: 1}, {Op: api.IFresh, B: 1}, {Op: api.IGo, A: -1}}, Start: []int{0}}
	m := tied(t, "local x = 1", p, 0, c)
	if !slices.Equal(m.PC, []int{0}) || !slices.Equal(m.Reg, []int{0}) || m.Gap != 30 || maps.Cost(p, 0) != 30 || maps.Size(p, 0, c) != 6 {
		t.Error(m, maps.Cost(p, 0), maps.Size(p, 0, c))
	}
	if got := maps.Cost(program(t, "goto l ::l::"), 0); got != 20 {
		t.Error("without expressions: ", got)
	}
	for pc, is := range []bool{true, false, false, false} {
		if stmt, ok := maps.Stmt(m, pc); stmt != 0 || ok != is {
			t.Error(pc, stmt, ok)
		}
	}
}

// P11.1: Cost of texts' functions, their expressions counted by hand.
func TestCost(t *testing.T) {
	for text, counts := range map[string][]int{
		"":                                       {0},
		"local a":                                {0},
		"local a = 1":                            {1},
		"a = 1":                                  {2},
		"a.b = c":                                {4},
		"return f(...)":                          {3},
		"return a and b or c":                    {5},
		"t = {1, x = 2, ...}":                    {9},
		"return (f())":                           {3},
		"o:m(1)":                                 {3},
		"for i = 1, 2 do end":                    {2},
		"for i = 1, 2, 3 do end":                 {3},
		"for a in f do end":                      {1},
		"while a do break end":                   {1},
		"return -#a":                             {3},
		"local function f() return f end":        {1, 1},
		"function f(a, b) return a + b end":      {2, 3},
		"f(function() end, function(a) a() end)": {4, 0, 2},
	} {
		p := program(t, text)
		for proto, count := range counts {
			if got := maps.Cost(p, proto); got != 20+10*count {
				t.Errorf("%s: Cost of function %d = %d, not of %d expressions", text, proto, got, count)
			}
		}
		noFunctions(t, text, p)
	}
	for _, exprs := range []int{0, 1, 2, 3, 10, 100, 1000, 4095, 4096} {
		if got := maps.Cost(bare(t, 1, exprs), 0); got != 20+10*exprs {
			t.Errorf("Cost of %d expressions = %d", exprs, got)
		}
	}
	p := bare(t, 1, 4096)
	f := &p.Protos[0]
	f.Exprs = append(f.Exprs, api.Expr{Kind: api.EParen, Kids: []int{4095}})
	f.Stmts[0].Exprs = []int{4096}
	if got := maps.Cost(p, 0); got != 0 {
		t.Error("Cost of 4097 expressions = ", got)
	}
}

// noFunctions asks of functions that p has not.
func noFunctions(t *testing.T, what string, p api.Program) {
	t.Helper()
	for _, proto := range []int{math.MinInt, math.MinInt32, -200, -1, len(p.Protos), len(p.Protos) + 1, 200, 1 << 32, math.MaxInt} {
		if got := maps.Cost(p, proto); got != 0 {
			t.Errorf("%s: Cost of function %d = %d", what, proto, got)
		}
		refused(t, what, p, proto, api.Code{})
		refused(t, what, p, proto, code(on))
		if len(p.Protos) > 0 {
			refused(t, what, p, proto, made(t, p, 0))
		}
	}
}

// P11.1: Size: one more with each statement, expression and instruction.
func TestSize(t *testing.T) {
	for _, stmts := range []int{1, 2, 7, 4096} {
		for _, exprs := range []int{0, 1, 5, 4096} {
			p := bare(t, stmts, exprs)
			for _, spare := range []int{0, 1, 40} {
				lists := slices.Repeat([][]api.Ins{on}, stmts)
				lists[stmts/2] = list(plain(spare), back)
				if got, want := maps.Size(p, 0, code(lists...)), 1+stmts+exprs+stmts+spare; got != want {
					t.Errorf("Size of %d, %d, %d = %d, not %d", stmts, exprs, spare, got, want)
				}
			}
		}
	}
	if got := maps.Size(bare(t, 0, 0), 0, api.Code{Regs: 1}); got != 1 {
		t.Error("Size of nothing = ", got)
	}
}

// ways are lists, each with how many instructions its longest way has.
var ways = []struct {
	what string
	list []api.Ins
	most int
}{
	{"an IGo alone", on, 1},
	{"an IReturn alone", back, 1},
	{"24 ahead of an IGo", list(plain(24), on), 25},
	{"24 ahead of an IReturn", list(plain(24), back), 25},
	{"an IGo in the midst", list(plain(24), on, plain(30), on), 25},
	{"an IReturn in the midst", list(plain(24), back, plain(30), back), 25},
	{"an IGo first", list(on, plain(60), back), 1},
	{"two ends in the midst", list(plain(40), back, plain(30), on, plain(50), on), 41},
	{"nobody goes behind the midst", list(fork(1, 11), plain(40), on, plain(90), on), 42},
	{"a test alone", list(fork(1, 1), on), 2},
	{"over all by B", list(fork(31, 1), plain(30), on), 32},
	{"over all by C", list(fork(1, 31), plain(30), on), 32},
	{"over all by both", list(fork(31, 31), plain(30), on), 2},
	{"B goes farther to a longer way", list(fork(32, 1), plain(30), on, plain(40), back), 42},
	{"C goes farther to a longer way", list(fork(1, 32), plain(30), on, plain(40), back), 42},
	{"B goes farther to a shorter way", list(fork(42, 1), plain(40), on, plain(30), back), 42},
	{"C goes farther to a shorter way", list(fork(1, 42), plain(40), on, plain(30), back), 42},
	{"B to the midst of a part", list(fork(11, 1), plain(30), on), 32},
	{"C to the midst of a part", list(fork(1, 11), plain(30), on), 32},
	{"both to a part's midst", list(fork(11, 12), plain(30), on), 22},
	{"parts that meet, the first one longer", list(fork(1, 32), plain(30), fork(40, 40), plain(8), on), 33},
	{"parts that meet, the second one longer", list(fork(1, 10), plain(8), fork(40, 40), plain(30), on), 32},
	{"parts that meet ahead of more", list(fork(1, 10), plain(8), fork(20, 20), plain(10), plain(25), on), 37},
	{"parts of one length", list(fork(1, 12), plain(10), fork(21, 21), plain(9), plain(25), on), 1 + 11 + 25 + 1},
	{"two tests, one behind the other", list(fork(1, 11), plain(10), fork(12, 22), plain(10), on), 23},
	{"two tests, each over its part", list(fork(11, 1), plain(10), fork(22, 12), plain(10), on), 23},
	{"three tests, long, short, long", list(fork(1, 12), plain(10), fork(14, 14), plain(2), fork(15, 18), plain(2), fork(28, 28), plain(10), fork(39, 29), plain(10), on), (1 + 11) + (1 + 10) + (1 + 10) + 1},
	{"a test in a test's part", list(fork(1, 40), plain(3), fork(5, 15), plain(10), fork(16, 26), plain(10), fork(50, 50), plain(13), plain(10), on), 1 + 3 + 11 + 11 + 1 + 1},
	{"a test in the other part", list(fork(1, 12), plain(10), fork(60, 60), plain(3), fork(16, 36), plain(20), fork(58, 37), plain(23), on), 1 + 3 + 1 + 20 + 1 + 23 + 1},
	{"a short way into a long one", list(fork(2, 1), on, fork(4, 3), on, plain(30), back), 33},
	{"a longer end that is ahead", list(fork(3, 1), fork(5, 2), on, plain(1), back, plain(20), back), 1 + 1 + 20 + 1},
	{"tests behind one another", list(fork(1, 2), fork(2, 3), fork(3, 4), fork(4, 5), fork(5, 6), fork(6, 7), fork(7, 8), plain(20), on), 7 + 21},
	{"tests to the end", list(fork(1, 7), fork(2, 7), fork(3, 7), fork(4, 7), fork(5, 7), fork(6, 7), fork(7, 7), plain(20), on), 7 + 21},
}

// P11.2: the longest way through a list, the only one, the first, in the midst, the last one; by each test.
func TestWays(t *testing.T) {
	p, one := bare(t, 3, 0), bare(t, 1, 0)
	gap := func(what string, p api.Program, want int, lists ...[]api.Ins) {
		t.Helper()
		if m := tied(t, what, p, 0, code(lists...)); m.Gap != max(20, want) {
			t.Errorf("%s: Gap = %d, not %d", what, m.Gap, want)
		}
	}
	for _, way := range ways {
		for _, op := range []api.InsOp{api.ITest, api.INilTest, api.IIntTest, api.IForStep} {
			l := slices.Clone(way.list)
			for i := range l {
				if l[i].Op == api.ITest {
					l[i].Op = op
				}
			}
			gap(way.what, one, way.most, l)
			gap(way.what+", the first one", p, way.most, l, on, back)
			gap(way.what+", in the midst", p, way.most, on, l, back)
			gap(way.what+", the last one", p, way.most, list(plain(3), on), back, l)
			gap(way.what+", thrice", p, way.most, l, l, l)
			gap(way.what+", beside a longer one", p, 99, l, list(plain(98), back), l)
		}
	}
}

// P11.2: each instruction that is no test and no end counts once.
func TestEachCounts(t *testing.T) {
	p := program(t, "local a f = function() local b = a return function() return a end end")
	const cost = 40
	open := api.Ins{Op: api.IDots, C: -1}
	seen := map[api.InsOp]bool{api.IGo: true, api.IReturn: true, api.ITest: true, api.INilTest: true, api.IIntTest: true, api.IForStep: true}
	for _, part := range [][]api.Ins{
		{{Op: api.INil, A: 1}}, {{Op: api.ITrue, A: 1}}, {{Op: api.IFalse, A: 1}}, {{Op: api.IInt, A: 1, N: -1}}, {{Op: api.IStr, A: 1}},
		{{Op: api.IDots, A: 1, C: 3}}, {{Op: api.IDots, A: 1}}, {{Op: api.IFunc, A: 1, N: 2}}, {{Op: api.IGet, A: 1}}, {{Op: api.ISet, B: 1}}, {{Op: api.IFresh, B: 1}},
		{{Op: api.IUp, A: 1}}, {{Op: api.ISetUp, A: 1}}, {{Op: api.IGlobal, A: 1}}, {{Op: api.ISetGlobal, A: 1}},
		{{Op: api.IIndex, A: 1, B: 2, C: 3}}, {{Op: api.ISetIndex, A: 1, B: 2, C: 3}}, {{Op: api.ISelf, A: 1}}, {{Op: api.IBin, A: 1, B: 2, C: 3, N: 1}}, {{Op: api.IUn, A: 1, B: 2, N: 18}},
		{{Op: api.ICall, A: 1, B: 3, C: 2}}, {{Op: api.ITable, A: 1}}, {{Op: api.IPut, A: 1, B: 2, C: 3}}, {{Op: api.IPutAt, A: 1, B: 2, N: 1}}, {{Op: api.IForPrep, A: 1}},
		{open, {Op: api.IPutAll, A: 1, N: 1}}, {open, {Op: api.ICall, A: 1, N: 1}}, {open, {Op: api.ICall, A: 1, C: -1, N: 1}, {Op: api.ICall, A: 1, B: 2, N: 1}},
	} {
		for _, in := range part {
			seen[in.Op] = true
		}
		for _, times := range []int{1, 12, 13, 14, 19, 20, 21, 38, 39, 40, 41} {
			if len(part)*times > 100 {
				continue
			}
			c := code(list(slices.Repeat(part, times), on), on)
			if m := tied(t, fmt.Sprint(part), p, 1, c); m.Gap != max(cost, len(part)*times+1) {
				t.Errorf("%v %d times: Gap = %d", part, times, m.Gap)
			}
		}
	}
	for op := api.INil; op <= api.IIntTest; op++ {
		if !seen[op] {
			t.Error("not tried: ", op)
		}
	}
}

// P11.2: the longest way is just Cost, one less, and one more; and as long as it may be.
func TestCostOrWay(t *testing.T) {
	for _, exprs := range []int{0, 1, 2, 9, 4095, 4096} {
		p := bare(t, 1, exprs)
		cost := 20 + 10*exprs
		most := 2050 + 30*exprs
		for _, way := range []int{1, 2, cost - 1, cost, cost + 1, most - 1, most} {
			c := code(list(plain(way-1), back))
			if m, err := maps.Of(p, 0, c); err != api.OK || m.Gap != max(cost, way) {
				t.Errorf("%d expressions, a way of %d: Gap = %d, %v", exprs, way, m.Gap, err)
			}
		}
		refused(t, "more than may be", p, 0, code(list(plain(most), back)))
		// What no way comes to doesn't count.
		c := code(list(plain(cost-1), back, plain(50), on))
		if m, err := maps.Of(p, 0, c); err != api.OK || m.Gap != cost {
			t.Errorf("%d expressions, what no way comes to: Gap = %d, %v", exprs, m.Gap, err)
		}
	}
}

// P11.2: more ways than could be gone one by one, through as many instructions as there may be.
func TestManyWays(t *testing.T) {
	const most = 20 + 2*4096*30 + 4096*2000
	p := bare(t, 4096, 4096)
	c := code(slices.Repeat([][]api.Ins{on}, 4096)...)
	ahead := most - len(c.Ins)
	l := make([]api.Ins, 0, most)
	for at := range ahead {
		l = append(l, api.Ins{Op: api.ITest, A: 1, B: at + 1, C: min(at+2, ahead)})
	}
	c.Ins = append(l, c.Ins...)
	for i := 1; i < len(c.Start); i++ {
		c.Start[i] += ahead
	}
	m, err := maps.Of(p, 0, c)
	if err != api.OK || m.Gap != ahead+1 || !slices.Equal(m.PC, c.Start) {
		t.Error(m.Gap, err)
	}
	if size := maps.Size(p, 0, c); size != 1+2*4096+most {
		t.Error(size)
	}
	found(t, "4096 statements", m, len(c.Ins))
}

// P11.2: a function without statements; with as many slots as there may be.
func TestSlots(t *testing.T) {
	for _, slots := range []int{0, 1, 2, 60, 119, 120} {
		for _, stmts := range []int{0, 1} {
			p := bare(t, stmts, 0)
			p.Protos[0].Slots, p.Protos[0].Boxed = slots, make([]bool, slots)
			for i := range p.Protos[0].Stmts {
				p.Protos[0].Stmts[i] = api.Stmt{Kind: api.SJump, Next: -1, Line: 1}
			}
			c := api.Code{Regs: slots}
			if stmts == 1 {
				c = api.Code{Regs: slots + 5, Ins: on, Start: []int{0}}
			}
			m := tied(t, fmt.Sprint(slots, " slots"), p, 0, c)
			if len(m.PC) != stmts || len(m.Reg) != slots || m.Gap != 20 || maps.Size(p, 0, c) != 1+2*stmts {
				t.Error(slots, stmts, m)
			}
		}
	}
}

// P11.2, P11.4: texts of every rule, and such put together by chance: of all of their functions, the codes that gen makes.
func TestTexts(t *testing.T) {
	stmts, exprs, ops := map[api.StmtKind]bool{}, map[api.ExprKind]bool{}, map[api.InsOp]bool{}
	longer := 0
	all := texts()
	g := rand.New(rand.NewSource(1))
	for range 1500 {
		all = append(all, together(g))
	}
	for _, text := range all {
		p := program(t, text)
		for proto, f := range p.Protos {
			c := made(t, p, proto)
			if m := tied(t, text, p, proto, c); m.Gap > costTold(f) {
				longer++
			}
			for _, s := range f.Stmts {
				stmts[s.Kind] = true
			}
			for _, e := range f.Exprs {
				exprs[e.Kind] = true
			}
			for _, in := range c.Ins {
				ops[in.Op] = true
			}
		}
	}
	if len(stmts) != 11 || len(exprs) != 21 || len(ops) != 31 {
		t.Error("kinds that no text has: ", len(stmts), len(exprs), len(ops))
	}
	t.Log(len(all), "texts; a way is longer than Cost:", longer)
}

// P11.2: a text whose statement has more instructions than Cost: a list of many slots.
func TestLongerThanCost(t *testing.T) {
	p := program(t, "local a, b, c, d, e, f, g, h, i, j, k, l, m")
	c := made(t, p, 0)
	if m := tied(t, "13 variables", p, 0, c); m.Gap != len(c.Ins) || m.Gap <= 20 {
		t.Error(m.Gap, len(c.Ins))
	}
}

// P11.2, P11.4: codes by chance.
func TestChance(t *testing.T) {
	g := rand.New(rand.NewSource(2))
	gaps := map[int]bool{}
	for range 10000 {
		count := 1 + g.Intn(4)
		var lists [][]api.Ins
		for range count {
			lists = append(lists, chanceList(g, 1+g.Intn(70)))
		}
		m := tied(t, "by chance", bare(t, count, g.Intn(2)), 0, code(lists...))
		gaps[m.Gap] = true
	}
	for gap := 20; gap < 60; gap++ {
		if !gaps[gap] {
			t.Error("no code has the Gap ", gap)
		}
	}
}

// chanceList answers a list of so many instructions by chance.
func chanceList(g *rand.Rand, count int) []api.Ins {
	var l []api.Ins
	for len(l) < count-1 {
		switch g.Intn(30) {
		case 0:
			l = append(l, on...)
		case 1:
			l = append(l, back...)
		case 2:
			l = append(l, api.Ins{Op: api.ICall, A: 1, C: -1}, api.Ins{Op: api.ICall, A: 2, N: 1})
		case 3, 4, 5, 6:
			op := []api.InsOp{api.ITest, api.INilTest, api.IIntTest, api.IForStep}[g.Intn(4)]
			l = append(l, api.Ins{Op: op, A: 1 + g.Intn(5)})
		default:
			l = append(l, api.Ins{Op: api.IInt, A: 1 + g.Intn(7), N: g.Int63()})
		}
	}
	l = append(l, [][]api.Ins{on, back}[g.Intn(2)]...)
	for at := range l {
		if isTest(l[at]) {
			l[at].B, l[at].C = chancePlace(g, l, at), chancePlace(g, l, at)
		}
	}
	return l
}

// chancePlace answers a place behind at, most often a near one, that takes no open list.
func chancePlace(g *rand.Rand, l []api.Ins, at int) int {
	for {
		to := at + 1 + g.Intn(len(l)-at-1)
		if g.Intn(3) > 0 {
			to = min(to, at+1+g.Intn(8))
		}
		if in := l[to]; in.Op != api.ICall || in.N == 0 {
			return to
		}
	}
}

// P11.3: maps by hand: two statements at one place, places that do not rise, numbers below 0, no places at all; nothing but PC counts.
func TestStmt(t *testing.T) {
	for _, pcs := range [][]int{
		nil, {}, {0}, {5}, {0, 1, 2}, {0, 3, 7}, {3, 3}, {0, 4, 4, 9}, {4, 4, 4, 4}, {9, 4, 0}, {2, 7, 2, 7, 0}, {5, 0, 5, 5}, {0, 9, 3, 9, 12, 3},
		{-1}, {-1, 0}, {0, -1, -1}, {math.MinInt, math.MaxInt}, {math.MaxInt, 0, math.MinInt, math.MaxInt}, counted(5000),
	} {
		for _, m := range []api.Map{{PC: pcs}, {PC: pcs, Reg: []int{9, 3, 0}, Gap: 3}, {PC: pcs, Reg: []int{-1}, Gap: -7}} {
			found(t, fmt.Sprint(pcs[:min(len(pcs), 9)]), m, 20)
		}
	}
	for _, row := range []struct{ pc, stmt int }{{0, 4}, {2, 0}, {7, 1}} {
		if stmt, ok := maps.Stmt(api.Map{PC: []int{2, 7, 2, 7, 0}}, row.pc); stmt != row.stmt || !ok {
			t.Error(row, stmt, ok)
		}
	}
	for _, pc := range []int{math.MinInt, -1, 0, 1, 3, 9, math.MaxInt} {
		if stmt, ok := maps.Stmt(api.Map{Reg: []int{0, 1, 3, 9}, Gap: 3}, pc); stmt != 0 || ok {
			t.Error("without places: ", pc, stmt, ok)
		}
		if stmt, ok := maps.Stmt(api.Map{PC: []int{2, 4, 6, 8}}, pc); stmt != 0 || ok {
			t.Error("at no place: ", pc, stmt, ok)
		}
	}
}

// P11.3: the room behind the places doesn't count.
func TestStmtRoom(t *testing.T) {
	places := []int{0, 3, 7, 9}
	if stmt, ok := maps.Stmt(api.Map{PC: places[:2]}, 7); stmt != 0 || ok {
		t.Error(stmt, ok)
	}
}

// P11.2: R3: an answer is new memory, and none of its lists shares any, the room behind them too.
func TestNewMemory(t *testing.T) {
	p := program(t, "local a, b, c = 1, 2 f(a) return b")
	c := made(t, p, 0)
	c.Start = append(c.Start, 77, 78, 79)[:3]
	c.Ins = append(c.Ins, api.Ins{A: 77})[:len(c.Ins)]
	before := shown(p, c)
	first, _ := maps.Of(p, 0, c)
	second, _ := maps.Of(p, 0, c)
	want := shown(second)
	fill := func(l []int) {
		l = l[:cap(l)]
		for i := range l {
			l[i] = -99
		}
	}
	fill(first.PC)
	if !slices.Equal(first.Reg, []int{0, 1, 2}) {
		t.Error("PC and Reg share memory: ", first)
	}
	fill(first.Reg)
	if shown(second) != want {
		t.Error("two answers share memory: ", second)
	}
	if shown(p, c) != before {
		t.Error("an answer shares memory with what was handed in")
	}
	fill(c.Start)
	if shown(second) != want {
		t.Error("what was handed in is kept: ", second)
	}
	if !gen.Right(p, 0, made(t, p, 0)) {
		t.Error("the program has changed")
	}
}
