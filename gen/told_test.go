package gen_test

import (
	"fmt"
	"math"
	"slices"
	"testing"

	"twinstep/api"
	"twinstep/gen"
	"twinstep/right"
)

// told_test.go: the chapter's words on a right code once more: what toldWrong answers nothing of is what Right should find right.

// reading is what is read of one instruction; not: what is wrong.
type reading struct {
	p     api.Program
	f     api.Proto
	c     api.Code
	begin int // the instruction's list
	end   int
	at    int
	in    api.Ins
	not   string
}

func (r *reading) ask(ok bool, what string) {
	if !ok && r.not == "" {
		r.not = fmt.Sprint(what, " of ", r.in, " at ", r.at)
	}
}

// free asks for so many free registers from one on.
func (r *reading) free(from, count int) {
	if from < 0 || from > 1<<20 {
		r.ask(count == 0, "a free register")
		return
	}
	for n := from; n < from+count; n++ {
		r.ask(r.f.Slots <= n && n < r.c.Regs, "a free register")
	}
}

func (r *reading) slot(n int)            { r.ask(0 <= n && n < r.f.Slots, "a slot") }
func (r *reading) place(n int64, of int) { r.ask(0 <= n && n < int64(of), "a place") }
func (r *reading) from(n, a, b int64)    { r.ask(a <= n && n <= b, "a number") }
func (r *reading) without(ns ...int) {
	r.ask(!slices.ContainsFunc(ns, func(n int) bool { return n != 0 }), "not 0")
}
func (r *reading) noNumber() { r.ask(r.in.N == 0, "N") }
func (r *reading) behind(places ...int) {
	for _, n := range places {
		r.goes(n)
	}
}
func (r *reading) freeEach(regs ...int) {
	for _, n := range regs {
		r.free(n, 1)
	}
}
func (r *reading) atMost(n, most int) { r.from(int64(n), 0, int64(most)) }
func (r *reading) text()              { r.place(r.in.N, len(r.p.Strs)) }
func (r *reading) opensHere(at int) bool {
	in := r.c.Ins[at]
	return (in.Op == api.IDots || in.Op == api.ICall) && in.C == -1
}
func (r *reading) takesVals(at int) bool {
	in := r.c.Ins[at]
	return in.Op == api.IPutAll || in.N == 1 && (in.Op == api.ICall || in.Op == api.IReturn)
}

// goes asks for a place behind this one in the same list, which takes no open list.
func (r *reading) goes(n int) {
	r.ask(r.at < n && n < r.end, "a place behind")
	r.ask(n < r.begin || n >= r.end || !r.takesVals(n), "a test goes to what takes an open list")
}

// row reads what the table tells of the instruction.
func (r *reading) row() {
	in := r.in
	switch in.Op {
	case api.INil, api.ITrue, api.IFalse, api.ITable:
		r.freeEach(in.A)
		r.without(in.B, in.C)
		r.noNumber()
	case api.IInt:
		r.freeEach(in.A)
		r.without(in.B, in.C)
	case api.IStr, api.IGlobal, api.ISetGlobal:
		r.freeEach(in.A)
		r.without(in.B, in.C)
		r.text()
	case api.IUp, api.ISetUp:
		r.freeEach(in.A)
		r.without(in.B, in.C)
		r.place(in.N, len(r.f.Ups))
	case api.IFunc:
		r.freeEach(in.A)
		r.without(in.B, in.C)
		r.ask(slices.ContainsFunc(r.f.Exprs, func(e api.Expr) bool { return e.Kind == api.EFunc && e.N == in.N }), "a function within")
	case api.IGet:
		r.freeEach(in.A)
		r.slot(in.B)
		r.without(in.C)
		r.noNumber()
	case api.ISet, api.IFresh:
		r.slot(in.A)
		r.freeEach(in.B)
		r.without(in.C)
		r.noNumber()
	case api.IIndex, api.ISetIndex, api.IPut:
		r.freeEach(in.A, in.B, in.C)
		r.noNumber()
	case api.ISelf:
		r.free(in.A, 2)
		r.without(in.B, in.C)
		r.text()
	case api.IBin:
		r.freeEach(in.A, in.B, in.C)
		r.from(in.N, int64(api.Add), int64(api.Ge))
	case api.IUn:
		r.freeEach(in.A, in.B)
		r.without(in.C)
		r.from(in.N, int64(api.Neg), int64(api.Bnot))
	default:
		r.longRow()
	}
}

// longRow reads the rest of the table.
func (r *reading) longRow() {
	in := r.in
	switch in.Op {
	case api.IDots:
		r.without(in.B)
		r.noNumber()
		switch in.C {
		case -1:
			r.without(in.A)
		case 0:
			r.from(int64(in.A), int64(r.f.Slots), int64(r.c.Regs))
		default:
			r.from(int64(in.C), 1, 200)
			r.free(in.A, min(in.C, 300))
		}
	case api.ICall:
		r.from(int64(in.B), 0, 201)
		r.free(in.A, 1+max(min(in.B, 300), 0))
		r.from(int64(in.C), -1, 200)
		r.free(in.A, max(min(in.C, 300), 0))
		r.from(in.N, 0, 1)
	case api.IReturn:
		r.atMost(in.B, 200)
		r.free(in.A, max(min(in.B, 300), 0))
		r.ask(in.B != 0 || in.A == 0, "A")
		r.without(in.C)
		r.from(in.N, 0, 1)
	case api.IPutAt:
		r.freeEach(in.A, in.B)
		r.without(in.C)
		r.from(in.N, 1, math.MaxInt64)
	case api.IPutAll:
		r.freeEach(in.A)
		r.without(in.B, in.C)
		r.from(in.N, 1, math.MaxInt64)
	case api.ITest, api.INilTest, api.IIntTest:
		r.freeEach(in.A)
		r.behind(in.B, in.C)
		r.noNumber()
	case api.IForPrep:
		r.free(in.A, 3)
		r.without(in.B, in.C)
		r.noNumber()
	case api.IForStep:
		r.free(in.A, 3)
		r.behind(in.B, in.C)
		r.noNumber()
	case api.IGo:
		r.ask(in.A == -1 || 0 <= in.A && in.A < len(r.f.Stmts), "a statement")
		r.without(in.B, in.C)
		r.noNumber()
	default:
		r.ask(false, "the Op")
	}
}

// toldWrong answers what of c is not as the chapter's words tell.
func toldWrong(p api.Program, proto int, c api.Code) string {
	if !right.Right(p) || proto < 0 || proto >= len(p.Protos) {
		return "no function of a right program"
	}
	f := p.Protos[proto]
	bound := 20
	for range f.Exprs {
		bound += 30
	}
	for _, s := range f.Stmts {
		bound += 30 + 10*len(s.Slots)
	}
	if c.Regs < f.Slots || c.Regs > f.Slots+8192 {
		return "Regs"
	}
	if len(c.Ins) > bound {
		return "too many Ins"
	}
	if len(c.Start) != len(f.Stmts) || len(c.Start) == 0 && len(c.Ins) > 0 {
		return "as many lists as statements"
	}
	bounds := append(slices.Clone(c.Start), len(c.Ins))
	for i := range c.Start {
		if bounds[i+1] <= bounds[i] || bounds[0] != 0 {
			return fmt.Sprint("where list ", i, " begins")
		}
	}
	for i, begin := range c.Start {
		if not := listWrong(p, f, c, begin, bounds[i+1]); not != "" {
			return not
		}
	}
	return ""
}

// listWrong answers what is wrong in one list.
func listWrong(p api.Program, f api.Proto, c api.Code, begin, end int) string {
	if last := c.Ins[end-1].Op; last != api.IGo && last != api.IReturn {
		return "a list's end"
	}
	for at := begin; at < end; at++ {
		r := reading{p: p, f: f, c: c, begin: begin, end: end, at: at, in: c.Ins[at]}
		r.row()
		r.ask(!r.takesVals(at) || at > begin && r.opensHere(at-1), "takes what was not made")
		r.ask(!r.opensHere(at) || at+1 < end && r.takesVals(at+1), "makes what is not taken")
		if r.not != "" {
			return r.not
		}
	}
	return ""
}

// tell asks whether c is a right code of that function, of Right and of the second reading; and that nothing was changed.
func tell(t *testing.T, what string, p api.Program, proto int, c api.Code, want bool) {
	t.Helper()
	p1, c1 := copied(p), copiedCode(c)
	if got := gen.Right(p, proto, c); got != want {
		t.Errorf("%s: Right = %v: function %d, %s", what, got, proto, short(shownCode(c)))
	}
	if not := toldWrong(p, proto, c); (not == "") != want {
		t.Errorf("%s: the second reading says %q: function %d, %s", what, not, proto, short(shownCode(c)))
	}
	if shown(p) != shown(p1) || shownCode(c) != shownCode(c1) {
		t.Errorf("%s: Right has changed what it was handed", what)
	}
}
