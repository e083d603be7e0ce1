package gen_test

import (
	"fmt"
	"math"
	"slices"
	"testing"

	"twinstep/api"
)

// lists_test.go: P10.1 by hand: open lists, tests, lists, how many registers and instructions there may be.

var (
	openDots = api.Ins{Op: api.IDots, C: -1}
	openCall = api.Ins{Op: api.ICall, A: 7, B: 1, C: -1}
	onCall   = api.Ins{Op: api.ICall, A: 7, B: 1, C: -1, N: 1}
	endCall  = api.Ins{Op: api.ICall, A: 7, B: 1, C: 2, N: 1}
	endBack  = api.Ins{Op: api.IReturn, A: 7, B: 1, N: 1}
	endPut   = api.Ins{Op: api.IPutAll, A: 7, N: 1}
	noCall   = api.Ins{Op: api.ICall, A: 7, B: 1}
	noBack   = api.Ins{Op: api.IReturn, A: 7, B: 1}
)

// P10.1: an open list is taken by the very next instruction, and nothing else takes one.
func TestOpen(t *testing.T) {
	filler := api.Ins{Op: api.INil, A: 7}
	for _, open := range []api.Ins{openDots, openCall} {
		for _, end := range []api.Ins{endCall, endBack, endPut} {
			tellBench(t, true, open, end)
			tellBench(t, true, open, onCall, end)
			tellBench(t, true, open, onCall, onCall, end)
			tellBench(t, true, open, end, filler, open, end)
			tellBench(t, true, open, end, open, end)
			tellBench(t, false, end)
			tellBench(t, false, filler, end)
			tellBench(t, false, open, filler, end)
			tellBench(t, false, end, open)
			tellBench(t, false, open, end, end)
			tellBench(t, false, open, open, end)
			tellBench(t, false, open)
			tellBench(t, false, open, onCall)
			tellBench(t, false, onCall, end)
			tellBench(t, false, open, end, filler, end)
		}
		for _, in := range []api.Ins{noCall, noBack, filler, {Op: api.IDots, A: 7, C: 1}, {Op: api.IInt, A: 7, N: 1}, {Op: api.IStr, A: 7, N: 1}, {Op: api.IBin, A: 7, B: 7, C: 7, N: 1}, {Op: api.IPutAt, A: 7, B: 8, N: 1}, {Op: api.IPut, A: 7, B: 8, C: 9}, {Op: api.IUp, A: 7, N: 1}, {Op: api.ISelf, A: 7, N: 1}, {Op: api.IGo, A: -1}} {
			tellBench(t, true, in)
			tellBench(t, false, open, in)
			tellBench(t, false, open, in, endCall)
		}
	}
	for _, end := range []api.Ins{endCall, endBack} {
		end.N = 2
		tellBench(t, false, openDots, end)
		tellBench(t, false, end)
		end.N = -1
		tellBench(t, false, openDots, end)
		tellBench(t, false, end)
	}
}

// P10.1: an open list doesn't go from one list to the next.
func TestOpenAcross(t *testing.T) {
	p := alone(0, jump(), jump())
	end := api.Ins{Op: api.IReturn, N: 1}
	on := api.Ins{Op: api.IGo, A: -1}
	tell(t, "together", p, 0, api.Code{Ins: []api.Ins{on, openDots, end}, Start: []int{0, 1}}, true)
	tell(t, "together in the first one", p, 0, api.Code{Ins: []api.Ins{openDots, end, on}, Start: []int{0, 2}}, true)
	tell(t, "apart", p, 0, api.Code{Ins: []api.Ins{openDots, end}, Start: []int{0, 1}}, false)
	tell(t, "taken first of all", p, 0, api.Code{Ins: []api.Ins{end, on}, Start: []int{0, 1}}, false)
	tell(t, "taken first", p, 0, api.Code{Ins: []api.Ins{on, end}, Start: []int{0, 1}}, false)
	tell(t, "made last", p, 0, api.Code{Ins: []api.Ins{on, openDots}, Start: []int{0, 1}}, false)
	tell(t, "made ahead of the end", p, 0, api.Code{Ins: []api.Ins{openDots, on, end}, Start: []int{0, 2}}, false)
}

// P10.1: no test goes to what takes an open list.
func TestOpenTests(t *testing.T) {
	for _, op := range []api.InsOp{api.ITest, api.INilTest, api.IIntTest, api.IForStep} {
		for _, open := range []api.Ins{openDots, openCall} {
			for _, end := range []api.Ins{endCall, endBack, endPut} {
				// The places 3 and 5 make one, 4 and 6 take it; 7 is behind.
				for b := 3; b < 8; b++ {
					for c := 3; c < 8; c++ {
						tellBench(t, b != 4 && b != 6 && c != 4 && c != 6, api.Ins{Op: op, A: 7, B: b, C: c}, open, end, openDots, endCall)
						tellBench(t, b != 4 && b != 5 && c != 4 && c != 5, api.Ins{Op: op, A: 7, B: b, C: c}, open, onCall, end, noCall)
					}
				}
			}
		}
		// With N 0 they take none.
		for _, end := range []api.Ins{noCall, noBack} {
			tellBench(t, true, api.Ins{Op: op, A: 7, B: 4, C: 4}, api.Ins{Op: api.IDots, A: 7, C: 1}, end)
		}
	}
}

// P10.1: a test goes to places behind itself in its own list.
func TestTestPlaces(t *testing.T) {
	for _, op := range []api.InsOp{api.ITest, api.INilTest, api.IIntTest, api.IForStep} {
		for at := 1; at < 8; at++ {
			p := host(jump(), jump(), returns(function(2)))
			c := api.Code{Regs: 9, Start: []int{0, 1, 9}}
			for place := range 12 {
				in := api.Ins{Op: api.ITrue, A: 5}
				if place == 0 || place == 8 || place == 11 {
					in = api.Ins{Op: api.IGo, A: -1}
				}
				c.Ins = append(c.Ins, in)
			}
			for to := -2; to < 15; to++ {
				want := at < to && to <= 8
				for _, other := range []int{8, to} {
					c.Ins[at] = api.Ins{Op: op, A: 6, B: to, C: other}
					tell(t, fmt.Sprint("list 1, place ", at), p, 1, c, want)
					c.Ins[at] = api.Ins{Op: op, A: 6, B: other, C: to}
					tell(t, fmt.Sprint("list 1, place ", at), p, 1, c, want)
				}
			}
		}
	}
	// At a list's end no test may stand: there is no place behind it, and it is neither an IGo nor an IReturn.
	p := alone(0, jump(), jump())
	for _, to := range []int{0, 1, 2} {
		tell(t, "a test at the end", p, 0, api.Code{Regs: 1, Ins: []api.Ins{{Op: api.ITest, B: to, C: to}, {Op: api.IGo, A: -1}}, Start: []int{0, 1}}, false)
	}
}

// P10.1: where an IGo goes.
func TestGo(t *testing.T) {
	for count := 1; count < 5; count++ {
		p := alone(0, times(count, jump())...)
		for at := range count {
			for to := -3; to < 8; to++ {
				c := api.Code{}
				for i := range count {
					c.Start = append(c.Start, i)
					c.Ins = append(c.Ins, api.Ins{Op: api.IGo, A: i})
				}
				c.Ins[at].A = to
				tell(t, fmt.Sprint(count, " statements"), p, 0, c, -1 <= to && to < count)
			}
		}
	}
}

// P10.1: a list for each statement, each where the one ahead ends, none empty, each with an end.
func TestLists(t *testing.T) {
	p := alone(1, jump(), jump(), jump())
	nothing, on, back := api.Ins{Op: api.INil, A: 1}, api.Ins{Op: api.IGo, A: 2}, api.Ins{Op: api.IReturn}
	ins := []api.Ins{nothing, on, nothing, nothing, back, on, nothing, back}
	for first := -2; first < 10; first++ {
		for second := -2; second < 10; second++ {
			for third := -2; third < 10; third++ {
				want := first == 0 && (second == 2 && (third == 5 || third == 6) || second == 5 && third == 6)
				tell(t, fmt.Sprint("lists at ", first, second, third), p, 0, api.Code{Regs: 2, Ins: ins, Start: []int{first, second, third}}, want)
			}
		}
	}
	for _, start := range [][]int{nil, {0}, {0, 2}, {0, 2, 5, 6}, {0, 2, 5, 8}, {0, 2, 5, 5}, {0, 0, 2}, {0, math.MaxInt, 5}, {0, 2, math.MaxInt}, {math.MinInt, 2, 5}, {0, math.MinInt, 5}, {-1, 2, 5}, {0, 5, 2}} {
		tell(t, fmt.Sprint("lists at ", start), p, 0, api.Code{Regs: 2, Ins: ins, Start: start}, false)
	}
	for _, last := range []api.Ins{nothing, {}, {Op: api.ITrue, A: 1}, {Op: api.ICall, A: 1}, openDots, {Op: api.IFresh, B: 1}, {Op: api.ITest, A: 1, B: 2, C: 2}} {
		for _, at := range []int{1, 4, 7} {
			c := api.Code{Regs: 2, Ins: slices.Clone(ins), Start: []int{0, 2, 5}}
			tell(t, "lists with an end", p, 0, c, true)
			c.Ins[at] = last
			tell(t, fmt.Sprint("a list that ends with ", last), p, 0, c, false)
		}
	}
	tell(t, "no instruction", p, 0, api.Code{Regs: 2, Start: []int{0, 0, 0}}, false)
	tell(t, "nothing", p, 0, api.Code{Regs: 2}, false)
	tell(t, "no list", p, 0, api.Code{Regs: 2, Ins: ins}, false)
	// An end in the midst is none of the list.
	tell(t, "ends in the midst", p, 0, api.Code{Regs: 2, Ins: []api.Ins{on, back, on, nothing, back, back, on}, Start: []int{0, 1, 6}}, true)
}

// P10.1: how many registers.
func TestRegs(t *testing.T) {
	for _, slots := range []int{0, 1, 2, 60, 119, 120} {
		p := alone(slots, jump())
		for _, regs := range []int{math.MinInt, -1, 0, slots - 1, slots, slots + 1, 4096, 8192, slots + 8191, slots + 8192, slots + 8193, math.MaxInt} {
			want := slots <= regs && regs <= slots+8192
			what := fmt.Sprint(slots, " slots, Regs ", regs)
			tell(t, what, p, 0, api.Code{Regs: regs, Ins: []api.Ins{{Op: api.IGo, A: -1}}, Start: []int{0}}, want)
			for _, at := range []int{slots - 1, slots, regs - 1, regs} {
				free := slots <= at && at < regs
				tell(t, fmt.Sprint(what, ", register ", at), p, 0, api.Code{Regs: regs, Ins: []api.Ins{{Op: api.ITrue, A: at}, {Op: api.IGo, A: -1}}, Start: []int{0}}, want && free)
			}
		}
	}
}

// P10.1: how many instructions: 20, 30 for each expression and statement, 10 for each of the Slots of all statements.
func TestBound(t *testing.T) {
	many := times(200, 0)
	for _, it := range []struct {
		p     api.Program
		most  int
		proto int
	}{
		{alone(0, jump()), 50, 0},
		{alone(0, jump(), jump()), 80, 0},
		{alone(0, returns(num(1))), 80, 0},
		{alone(0, returns(num(1), of(api.EUn, 18, num(2)))), 140, 0},
		{alone(3, stmt(api.SLocal).slots(0)), 60, 0},
		{alone(3, stmt(api.SLocal).slots(0, 1, 1, 2)), 90, 0},
		{alone(3, stmt(api.SLocal).slots(many...)), 2050, 0},
		{alone(4, stmt(api.SForLoop).slots(0, 3).orElse(-1)), 70, 0},
		{alone(4, stmt(api.SForPrep).slots(0).by(num(1), num(2)), stmt(api.SInLoop).slots(0, 3, 2).orElse(-1)), 180, 0},
		{alone(1, stmt(api.SAssign).to(slot(0), slot(0)).by(num(1))), 140, 0},
		{host(jump(), returns(function(2))), 110, 1},
	} {
		stmts := len(it.p.Protos[it.proto].Stmts)
		for _, count := range []int{stmts, stmts + 1, 30, 50, it.most - 20, it.most - 10, it.most - 1, it.most, it.most + 1, it.most + 10, it.most + 30} {
			c := api.Code{Regs: 9}
			for i := range count - stmts {
				c.Ins = append(c.Ins, api.Ins{Op: api.IInt, A: 8, N: int64(i)})
			}
			for i := range stmts {
				c.Ins = append(c.Ins, api.Ins{Op: api.IGo, A: -1})
				c.Start = append(c.Start, max(count-stmts+i, 0))
			}
			c.Start[0] = 0
			want := count <= it.most && count >= stmts
			tell(t, fmt.Sprint(count, " of ", it.most), rightly(t, it.p), it.proto, c, want)
		}
	}
}
