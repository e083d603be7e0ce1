package right_test

import (
	"fmt"
	"math"
	"math/rand"
	"testing"

	"twinstep/api"
	"twinstep/right"
)

// chance_test.go: programs of which each number is changed, or some things by chance, and programs thrown together.

// number is a number of a program, and what it may be beside what it is.
type number struct {
	what   string
	change func(to func(int) int)
	none   bool // -1
	great  bool // as great as there is room for
	any    bool
}

func numberAt[T ~int | ~int64](what string, at *T) number {
	return number{what: what, change: func(to func(int) int) { *at = T(to(int(*at))) }}
}

// numbersIn answers all numbers of p, each with what it may be.
func numbersIn(p api.Program) []number {
	var out []number
	put := func(n number, i, k int) *number {
		n.what = fmt.Sprintf("%s of %d of function %d", n.what, k, i)
		out = append(out, n)
		return &out[len(out)-1]
	}
	list := func(what string, places []int, i, k int) {
		for at := range places {
			put(numberAt(what, &places[at]), i, k)
		}
	}
	for i := range p.Protos {
		f := &p.Protos[i]
		put(numberAt("Params", &f.Params), i, -1)
		put(numberAt("Slots", &f.Slots), i, -1)
		put(numberAt("Start", &f.Start), i, -1).none = len(f.Stmts) == 0
		for k := range f.Ups {
			put(numberAt("At", &f.Ups[k].At), i, k)
		}
		for k := range f.Stmts {
			s := &f.Stmts[k]
			list("Slots", s.Slots, i, k)
			list("Targets", s.Targets, i, k)
			list("Exprs", s.Exprs, i, k)
			put(numberAt("Next", &s.Next), i, k).none = true
			put(numberAt("Else", &s.Else), i, k).none = forks(s.Kind)
			put(numberAt("Line", &s.Line), i, k).great = true
		}
		for k := range f.Exprs {
			e := &f.Exprs[k]
			list("Kids", e.Kids, i, k)
			put(numberAt("N", &e.N), i, k).any = e.Kind == api.EInt
		}
	}
	return out
}

// P9.1: numbers below 0, everywhere, and far too great ones.
func TestNumbers(t *testing.T) {
	p := rich()
	for _, n := range numbersIn(p) {
		for _, to := range []int{-1, -2, math.MinInt32, math.MinInt, math.MinInt + 1, math.MaxInt, math.MaxInt - 1, math.MaxInt - 2} {
			was := 0
			n.change(func(old int) int { was = old; return to })
			tell(t, fmt.Sprint(n.what, " ", to), p, n.any || n.none && to == -1 || n.great && to > 0)
			n.change(func(int) int { return was })
		}
	}
	tell(t, "as it was", p, true)
}

// P9.1: numbers one less and one more, against the second reading.
func TestOneMore(t *testing.T) {
	p := rich()
	wasRight, wasWrong := 0, 0
	for _, n := range numbersIn(p) {
		for _, by := range []int{-1, 1, 2, -3, 1 << 32} {
			n.change(func(old int) int { return old + by })
			tell(t, fmt.Sprint(n.what, " by ", by), p, toldWrong(p) == "")
			if right.Right(p) {
				wasRight++
			} else {
				wasWrong++
			}
			n.change(func(old int) int { return old - by })
		}
	}
	if min(wasRight, wasWrong) < 50 {
		t.Error("too few of one sort:", wasRight, wasWrong)
	}
}

// spoiler changes programs by chance.
type spoiler struct {
	*rand.Rand
}

// places answers one of the lists of places of f, by chance.
func (g spoiler) places(f *api.Proto) *[]int {
	if len(f.Stmts) == 0 || len(f.Exprs) > 0 && g.Intn(3) == 0 {
		if len(f.Exprs) == 0 {
			return new([]int)
		}
		return &f.Exprs[g.Intn(len(f.Exprs))].Kids
	}
	s := &f.Stmts[g.Intn(len(f.Stmts))]
	return []*[]int{&s.Slots, &s.Targets, &s.Exprs}[g.Intn(3)]
}

// near answers a number near n.
func (g spoiler) near(n int) int { return n + g.Intn(5) - 2 }

// list changes a list of places.
func (g spoiler) list(f *api.Proto) {
	list, other := g.places(f), g.places(f)
	switch g.Intn(6) {
	case 0:
		*list = append(*list, g.Intn(len(f.Exprs)+2)-1)
	case 1:
		*list = (*list)[:max(len(*list)-1, 0)]
	case 2:
		*list, *other = *other, *list
	case 3:
		g.Shuffle(len(*list), func(i, j int) { (*list)[i], (*list)[j] = (*list)[j], (*list)[i] })
	case 4:
		if len(*list) > 0 && len(*other) > 0 {
			a, b := &(*list)[g.Intn(len(*list))], &(*other)[g.Intn(len(*other))]
			*a, *b = *b, *a
		}
	case 5:
		if len(*list) > 0 {
			*other = append(*other, (*list)[len(*list)-1])
			*list = (*list)[:len(*list)-1]
		}
	}
}

// stmt changes a statement of f.
func (g spoiler) stmt(f *api.Proto) {
	if len(f.Stmts) == 0 {
		return
	}
	s, other := &f.Stmts[g.Intn(len(f.Stmts))], &f.Stmts[g.Intn(len(f.Stmts))]
	switch g.Intn(7) {
	case 0:
		s.Kind = api.StmtKind(g.Intn(13))
	case 1:
		s.Next = g.Intn(len(f.Stmts)+3) - 2
	case 2:
		s.Else = g.Intn(len(f.Stmts)+3) - 2
	case 3:
		s.Line = g.near(1)
	case 4:
		*s, *other = *other, *s
	case 5:
		s.Kind, other.Kind = other.Kind, s.Kind
	case 6:
		for i := range s.Slots {
			s.Slots[i] = g.Intn(f.Slots+3) - 1
		}
	}
}

// expr changes an expression of f.
func (g spoiler) expr(f *api.Proto) {
	if len(f.Exprs) == 0 {
		return
	}
	e, other := &f.Exprs[g.Intn(len(f.Exprs))], &f.Exprs[g.Intn(len(f.Exprs))]
	switch g.Intn(6) {
	case 0:
		e.Kind = api.ExprKind(g.Intn(23))
	case 1:
		e.N = int64(g.near(int(e.N)))
	case 2:
		e.Kind, e.N, other.Kind, other.N = other.Kind, other.N, e.Kind, e.N
	case 3:
		*e, *other = *other, *e
	case 4:
		e.Kind = other.Kind
	case 5:
		e.N = other.N
	}
}

// function changes what a function has beside its lists.
func (g spoiler) function(p *api.Program, f *api.Proto) {
	other := &p.Protos[g.Intn(len(p.Protos))]
	switch g.Intn(9) {
	case 0:
		f.Params = g.near(f.Params)
	case 1:
		f.More = !f.More
	case 2:
		f.Slots = g.near(f.Slots)
	case 3:
		for i := range f.Boxed {
			f.Boxed[i] = g.Intn(2) == 0
		}
	case 4:
		for i := range f.Ups {
			f.Ups[i] = api.Up{Local: g.Intn(2) == 0, At: g.Intn(4) - 1}
		}
	case 5:
		f.Ups = append(f.Ups, api.Up{Local: g.Intn(2) == 0, At: g.Intn(4) - 1})
	case 6:
		f.Start = g.Intn(len(f.Stmts)+3) - 2
	case 7:
		*f, *other = *other, *f
	case 8:
		if len(p.Strs) > 0 {
			p.Strs = append(p.Strs, p.Strs[g.Intn(len(p.Strs))])
		}
	}
}

// spoil answers p with one thing changed.
func (g spoiler) spoil(p api.Program) api.Program {
	p = copied(p)
	f := &p.Protos[g.Intn(len(p.Protos))]
	switch g.Intn(4) {
	case 0:
		g.list(f)
	case 1:
		g.stmt(f)
	case 2:
		g.expr(f)
	case 3:
		g.function(&p, f)
	}
	return p
}

// agree asks that Right and Proto say what the second reading says; and answers whether p is right.
func agree(t *testing.T, what string, p api.Program) bool {
	t.Helper()
	not := toldWrong(p)
	if got := right.Right(p); got != (not == "") {
		t.Fatalf("%s: Right = %v, the second reading says %q: %s", what, got, not, shown(p))
	}
	for n := range p.Protos {
		if got, not := right.Proto(p, n), toldWrongProto(p, n); got != (not == "") {
			t.Fatalf("%s: Proto %d = %v, the second reading says %q: %s", what, n, got, not, shown(p))
		}
	}
	if not == "" {
		inside(t, what, p)
	}
	return not == ""
}

// P9.1, P9.2: programs with a few changes by chance, against the second reading.
func TestSpoilt(t *testing.T) {
	g := spoiler{rand.New(rand.NewSource(9))}
	bases := []api.Program{rich(), host(stated()...), alone(4, returns(of(api.EBin, 3, of(api.ESlot, 1), one())), jump())}
	for _, text := range texts() {
		bases = append(bases, program(t, text))
	}
	wasRight, wasWrong := 0, 0
	for _, base := range bases {
		for range 600 {
			p := base
			for range 1 + g.Intn(3) {
				p = g.spoil(p)
			}
			if agree(t, "spoilt", p) {
				wasRight++
			} else {
				wasWrong++
			}
		}
	}
	if min(wasRight, wasWrong) < 3000 {
		t.Error("too few of one sort:", wasRight, wasWrong)
	}
}

// P9.1, P9.2: things thrown together: each call ends, and none panics.
func TestGarbage(t *testing.T) {
	r := rand.New(rand.NewSource(99))
	places := func(most, below int) []int {
		out := make([]int, r.Intn(most+1))
		for i := range out {
			out[i] = r.Intn(below+2) - 1
		}
		return out
	}
	wasRight, rightProtos := 0, 0
	for range 60000 {
		p := api.Program{Strs: []string{"a", "b"}[:r.Intn(3)], Protos: make([]api.Proto, 1+r.Intn(2))}
		for i := range p.Protos {
			f := api.Proto{More: i == 0, Slots: r.Intn(5), Start: r.Intn(2) - 1}
			f.Boxed = times(f.Slots, true)
			exprs, stmts := r.Intn(4), r.Intn(3)
			for k := range exprs {
				e := api.Expr{Kind: api.ExprKind(1 + r.Intn(21)), N: int64(r.Intn(3))}
				if k > 0 {
					e.Kids = places(2, k)
				}
				f.Exprs = append(f.Exprs, e)
			}
			for range stmts {
				s := api.Stmt{Kind: api.StmtKind(1 + r.Intn(11)), Slots: places(1, f.Slots), Exprs: places(2, exprs), Next: r.Intn(stmts+1) - 1, Line: 1}
				if r.Intn(4) == 0 {
					s.Targets = places(1, exprs)
				}
				f.Stmts = append(f.Stmts, s)
			}
			p.Protos[i] = f
		}
		if agree(t, "garbage", p) {
			wasRight++
		}
		if right.Proto(p, 0) {
			rightProtos++
		}
	}
	if wasRight < 500 || rightProtos < 1000 {
		t.Error("too few that are right:", wasRight, rightProtos)
	}
}
