package gen_test

import (
	"fmt"
	"math"
	"math/rand"
	"slices"
	"testing"

	"twinstep/api"
	"twinstep/gen"
)

// spoil_test.go: P10.1: codes of which each number is changed, or some things by chance, against the second reading.

// bases answers functions of programs, each with a code that is right.
func bases(t *testing.T) (ps []api.Program, protos []int, codes []api.Code) {
	add := func(p api.Program) {
		for proto := range p.Protos {
			c, err := gen.Gen(p, proto)
			if err != api.OK {
				t.Fatal(err)
			}
			ps, protos, codes = append(ps, p), append(protos, proto), append(codes, c)
		}
	}
	add(host(append(stmtsOfAll(null())[:17], returns(exprsOfAll()...))...))
	add(alone(4, times(3, stmt(api.SForLoop).slots(1, 0).orElse(2))...))
	for _, text := range texts() {
		add(program(t, text))
	}
	for seed := range 30 {
		add(newGrower(seed, 20).program())
	}
	return ps, protos, codes
}

// agree asks that Right says what the second reading says, and answers whether c is right.
func agree(t *testing.T, what string, p api.Program, proto int, c api.Code) bool {
	t.Helper()
	not := toldWrong(p, proto, c)
	if got := gen.Right(p, proto, c); got != (not == "") {
		t.Fatalf("%s: Right = %v, the second reading says %q: %s, %s", what, got, not, shown(p), shownCode(c))
	}
	return not == ""
}

// numbersIn answers where the numbers of c are.
func numbersIn(c *api.Code) []*int {
	out := []*int{&c.Regs}
	for i := range c.Start {
		out = append(out, &c.Start[i])
	}
	for i := range c.Ins {
		out = append(out, &c.Ins[i].A, &c.Ins[i].B, &c.Ins[i].C)
	}
	return out
}

// P10.1: numbers below 0, everywhere, and far too great ones: but for an IGo and an open list none may be so.
func TestNumbers(t *testing.T) {
	p := host(append(stmtsOfAll(null())[:17], returns(exprsOfAll()...))...)
	c, _ := gen.Gen(p, 1)
	for _, at := range numbersIn(&c) {
		was := *at
		for _, to := range []int{-2, -3, math.MinInt32, math.MinInt, math.MinInt + 1, math.MaxInt, math.MaxInt - 1, math.MaxInt - 200, math.MaxInt - 201} {
			*at = to
			tell(t, fmt.Sprint("a number ", to), p, 1, c, false)
		}
		*at = was
	}
	for i := range c.Ins {
		in := &c.Ins[i]
		was := in.N
		for _, to := range []int64{-1, -2, math.MinInt64, math.MaxInt64} {
			in.N = to
			tell(t, fmt.Sprint("N ", to), p, 1, c, in.Op == api.IInt || to > 0 && (in.Op == api.IPutAt || in.Op == api.IPutAll))
		}
		in.N = was
		for _, at := range []*int{&in.A, &in.B, &in.C} {
			was := *at
			*at = -1
			agree(t, "a number -1", p, 1, c)
			*at = was
		}
	}
	tell(t, "as it was", p, 1, c, true)
}

// P10.1: numbers one less and one more.
func TestOneMore(t *testing.T) {
	ps, protos, codes := bases(t)
	wasRight, wasWrong := 0, 0
	for i, c := range codes {
		c = copiedCode(c)
		count := func(what string) {
			if agree(t, what, ps[i], protos[i], c) {
				wasRight++
			} else {
				wasWrong++
			}
		}
		if len(c.Ins) > 150 {
			continue
		}
		for _, at := range numbersIn(&c) {
			for _, by := range []int{-1, 1, 2, -3} {
				*at += by
				count("a number changed")
				*at -= by
			}
		}
		for k := range c.Ins {
			for _, by := range []int64{-1, 1, 2, -3, 1 << 32} {
				c.Ins[k].N += by
				count("N changed")
				c.Ins[k].N -= by
			}
		}
	}
	if min(wasRight, wasWrong) < 2000 {
		t.Error("too few of one sort: ", wasRight, wasWrong)
	}
}

// spoil answers c with one thing changed by chance.
func spoil(g *rand.Rand, c api.Code) api.Code {
	c = copiedCode(c)
	near := func(n int) int { return n + g.Intn(5) - 2 }
	if len(c.Ins) == 0 || len(c.Start) == 0 || g.Intn(20) == 0 {
		c.Regs = near(c.Regs)
		return c
	}
	at := g.Intn(len(c.Ins))
	in, other := &c.Ins[at], &c.Ins[g.Intn(len(c.Ins))]
	list := g.Intn(len(c.Start))
	move := func(by int) {
		for i := range c.Start {
			if c.Start[i] > at {
				c.Start[i] += by
			}
		}
	}
	switch g.Intn(12) {
	case 0:
		in.A = near(in.A)
	case 1:
		in.B = near(in.B)
	case 2:
		in.C = near(in.C)
	case 3:
		in.N += int64(g.Intn(3) - 1)
	case 4:
		in.Op = api.InsOp(g.Intn(33))
	case 5:
		*in, *other = *other, *in
	case 6:
		*in = *other
	case 7:
		in.Op = other.Op
	case 8:
		c.Start[list] = near(c.Start[list])
	case 9:
		c.Ins = slices.Delete(c.Ins, at, at+1)
		move(-1)
	case 10:
		c.Ins = slices.Insert(c.Ins, at, *other)
		move(1)
	case 11:
		c.Start = slices.Delete(c.Start, list, list+g.Intn(2))
	}
	return c
}

// P10.1: codes with a few changes by chance.
func TestSpoilt(t *testing.T) {
	g := rand.New(rand.NewSource(10))
	ps, protos, codes := bases(t)
	wasRight, wasWrong := 0, 0
	for i, base := range codes {
		for range 250 {
			c := base
			for range 1 + g.Intn(3) {
				c = spoil(g, c)
			}
			if agree(t, "spoilt", ps[i], protos[i], c) {
				wasRight++
			} else {
				wasWrong++
			}
		}
	}
	if min(wasRight, wasWrong) < 5000 {
		t.Error("too few of one sort: ", wasRight, wasWrong)
	}
}

// P10.1: a code of one function asked of another one, and of another program.
func TestOthers(t *testing.T) {
	ps, protos, codes := bases(t)
	wasRight := 0
	for i := 0; i < len(codes); i += 3 {
		for k := range codes {
			if agree(t, "of another one", ps[i], protos[i], codes[k]) {
				wasRight++
			}
		}
	}
	if wasRight < len(codes) {
		t.Error("too few that are right: ", wasRight)
	}
}

// P10.1: things thrown together: each call ends, and none panics.
func TestGarbage(t *testing.T) {
	g := rand.New(rand.NewSource(11))
	p := host(jump(), jump(), returns(function(2)))
	wasRight := 0
	for range 200000 {
		c := api.Code{Regs: 5 + g.Intn(4), Start: []int{0, 1 + g.Intn(2), 3}}
		for range 4 + g.Intn(2) {
			in := api.Ins{Op: api.InsOp(g.Intn(32)), A: g.Intn(10) - 1, B: g.Intn(4) - 1, C: g.Intn(4) - 1, N: int64(g.Intn(3))}
			if g.Intn(3) > 0 {
				in = []api.Ins{{Op: api.IGo, A: g.Intn(5) - 1}, {Op: api.IReturn, N: int64(g.Intn(2))}, {Op: api.IDots, C: -1}, {Op: api.INil, A: g.Intn(9)}, {Op: api.ITest, A: 5, B: g.Intn(5), C: 2}, {Op: api.ICall, A: 5, C: -1, N: int64(g.Intn(2))}}[g.Intn(6)]
			}
			c.Ins = append(c.Ins, in)
		}
		for _, end := range []int{c.Start[1], c.Start[2], len(c.Ins)} {
			if g.Intn(4) > 0 {
				c.Ins[end-1] = api.Ins{Op: api.IGo, A: g.Intn(4) - 1}
			}
		}
		if agree(t, "garbage", p, 1, c) {
			wasRight++
		}
	}
	if wasRight < 200 {
		t.Error("too few that are right: ", wasRight)
	}
}
