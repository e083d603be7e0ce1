package right_test

import (
	"fmt"
	"math"
	"slices"
	"strings"
	"testing"

	"twinstep/api"
	"twinstep/right"
)

// kindNames are all kinds of expressions.
var kindNames = map[api.ExprKind]string{
	api.ENil: "ENil", api.ETrue: "ETrue", api.EFalse: "EFalse", api.EInt: "EInt", api.EStr: "EStr", api.EDots: "EDots", api.EFunc: "EFunc",
	api.ESlot: "ESlot", api.EUp: "EUp", api.EGlobal: "EGlobal", api.EIndex: "EIndex", api.ECall: "ECall", api.EMethod: "EMethod",
	api.EBin: "EBin", api.EAnd: "EAnd", api.EOr: "EOr", api.EUn: "EUn", api.ETable: "ETable", api.EItem: "EItem", api.ENamed: "ENamed", api.EParen: "EParen",
}

// samples answers an expression of each kind, right in a host.
func samples() []part {
	return []part{
		of(api.ENil, 0), of(api.ETrue, 0), of(api.EFalse, 0), one(), of(api.EStr, 1), of(api.EDots, 0), function(2), of(api.ESlot, 4),
		of(api.EUp, 1), of(api.EGlobal, 0), of(api.EIndex, 0, one(), one()), of(api.ECall, 0, one()), of(api.EMethod, 1, one()),
		of(api.EBin, 1, one(), one()), of(api.EAnd, 0, one(), one()), of(api.EOr, 0, one(), one()), of(api.EUn, 18, one()),
		of(api.ETable, 0, item()), item(), of(api.ENamed, 0, one(), one()), of(api.EParen, 0, one()),
	}
}

// stated answers a statement of each kind, right in a host, each with all that it may have, but few of it.
func stated() []stat {
	call := of(api.ECall, 0, one())
	return []stat{
		stmt(api.SLocal).slots(0, 1).by(one(), one()),
		stmt(api.SAssign).to(of(api.ESlot, 0), of(api.EUp, 0)).by(one(), one()),
		stmt(api.SCall).by(call),
		stmt(api.STest).by(one()).orElse(-1),
		stmt(api.SForPrep).slots(1).by(one(), one(), one()),
		stmt(api.SForLoop).slots(1, 4).orElse(-1),
		stmt(api.SInPrep).slots(1).by(one(), one()),
		stmt(api.SInLoop).slots(1, 4, 0).orElse(-1),
		stmt(api.SFunc).slots(3).by(function(2)),
		returns(one(), one()),
		jump(),
	}
}

// rich answers a program that has each kind of expression and each kind of statement.
func rich() api.Program {
	return host(append(stated(), returns(of(api.ETable, 0, items(samples())...)))...)
}

// items answers what a table may have of these expressions: all but the function.
func items(parts []part) []part {
	var out []part
	for _, p := range parts {
		switch p.kind {
		case api.EFunc:
			continue
		case api.EItem, api.ENamed:
			out = append(out, p)
		default:
			out = append(out, of(api.EItem, 0, p))
		}
	}
	return out
}

// Chapter 9, examples.
func TestExamples(t *testing.T) {
	example := func() api.Program {
		p := alone(1, stmt(api.SLocal).slots(0).by(one()), stmt(api.SAssign).to(of(api.ESlot, 0)).by(of(api.EBin, 1, of(api.ESlot, 0), of(api.EGlobal, 0))))
		p.Strs = []string{"y"}
		return p
	}
	tell(t, "local x = 1 x = x + y", example(), true)
	for what, spoil := range map[string]func(f *api.Proto){
		"Next 2":        func(f *api.Proto) { f.Stmts[0].Next = 2 },
		"Slots 0":       func(f *api.Proto) { f.Slots = 0 },
		"Exprs 4 twice": func(f *api.Proto) { f.Stmts[1].Exprs = []int{4, 4} },
		"ESlot 1":       func(f *api.Proto) { f.Exprs[1].N = 1 },
	} {
		p := example()
		spoil(&p.Protos[0])
		tell(t, what, p, false)
	}
}

// P9.1: the least programs, and none at all.
func TestLeast(t *testing.T) {
	least := func() api.Program { return api.Program{Protos: []api.Proto{{More: true, Start: -1}}} }
	tell(t, "the least one", least(), true)
	tell(t, "no function", api.Program{}, false)
	tell(t, "no function, but texts", api.Program{Strs: []string{"a"}}, false)
	for what, spoil := range map[string]func(p *api.Program){
		"Params":      func(p *api.Program) { p.Protos[0].Params, p.Protos[0].Slots, p.Protos[0].Boxed = 1, 1, []bool{false} },
		"no More":     func(p *api.Program) { p.Protos[0].More = false },
		"an Up":       func(p *api.Program) { p.Protos[0].Ups = []api.Up{outer(0)} },
		"a Local Up":  func(p *api.Program) { p.Protos[0] = ups(root(boxed(true)), local(0)); p.Protos[0].Start = -1 },
		"its own N":   func(p *api.Program) { p.Protos[0] = lay(root(plain(0)), returns(function(0))) },
		"a 2nd one":   func(p *api.Program) { p.Protos = append(p.Protos, api.Proto{More: true, Start: -1}) },
		"N of a 2nd":  func(p *api.Program) { p.Protos = append(p.Protos, lay(plain(0), returns(function(0)))) },
		"Start 0":     func(p *api.Program) { p.Protos[0].Start = 0 },
		"a 0 element": func(p *api.Program) { p.Protos = append(p.Protos, api.Proto{}) },
	} {
		p := least()
		spoil(&p)
		tell(t, what, p, false)
	}
	// Of these only the program is not right, not its function 0.
	for _, f := range []api.Proto{{Start: -1}, {Start: -1, Slots: 1, Boxed: []bool{true}, Params: 1}, {Start: -1, Ups: []api.Up{outer(-5), local(9)}}, lay(plain(0), returns(function(0)))} {
		tellProto(t, "a function 0 by itself", api.Program{Protos: []api.Proto{f}}, 0, true)
		tell(t, "a function 0", api.Program{Protos: []api.Proto{f}}, false)
	}
}

// P9.1: each kind of expression and each kind of statement, and kinds that there are not.
func TestEachKind(t *testing.T) {
	if all := samples(); len(all) != len(kindNames) {
		t.Fatal("not all kinds")
	}
	tell(t, "all kinds", rich(), true)
	for _, p := range samples() {
		if p.kind == api.EItem || p.kind == api.ENamed {
			p = of(api.ETable, 0, p)
		}
		tell(t, kindNames[p.kind], host(returns(p)), true)
	}
	for _, s := range stated() {
		tell(t, fmt.Sprint("statement of kind ", s.Kind), host(s), true)
	}
	for k := range 256 {
		if p := of(api.ExprKind(k), 0); kindNames[p.kind] == "" {
			for kids := range 4 {
				p.parts = times(kids, one())
				tell(t, fmt.Sprint("an expression of kind ", k), host(returns(p)), false)
			}
		}
		if k < 1 || k > 11 {
			tell(t, fmt.Sprint("a statement of kind ", k), host(stmt(api.StmtKind(k))), false)
			tell(t, fmt.Sprint("a statement of kind ", k, " with all"), host(stmt(api.StmtKind(k)).slots(0).to(of(api.ESlot, 0)).by(one())), false)
		}
	}
}

// exprRow is what an expression of a kind may have in a host: its N from the least one on, kids from the least count on; values or items.
type exprRow struct {
	n, mostN   int64
	kids, most int
	items      bool
}

var exprRows = map[api.ExprKind]exprRow{
	api.ENil: {}, api.ETrue: {}, api.EFalse: {}, api.EDots: {},
	api.EInt: {n: math.MinInt64, mostN: math.MaxInt64},
	api.EStr: {mostN: 1}, api.EGlobal: {mostN: 1}, api.EFunc: {mostN: 2}, api.ESlot: {mostN: 4}, api.EUp: {mostN: 1},
	api.EIndex: {kids: 2, most: 2}, api.EAnd: {kids: 2, most: 2}, api.EOr: {kids: 2, most: 2}, api.ENamed: {kids: 2, most: 2},
	api.ECall: {kids: 1, most: 201}, api.EMethod: {mostN: 1, kids: 1, most: 201},
	api.EBin: {n: 1, mostN: 17, kids: 2, most: 2}, api.EUn: {n: 18, mostN: 21, kids: 1, most: 1},
	api.ETable: {most: 4096, items: true}, api.EItem: {kids: 1, most: 1}, api.EParen: {kids: 1, most: 1},
}

// placed answers a host in which p stands where its kind may stand.
func placed(p part) api.Program {
	if p.kind == api.EItem || p.kind == api.ENamed {
		p = of(api.ETable, 0, p)
	}
	return host(returns(p))
}

// P9.1: the least and the greatest N of each kind of expression, and one less and more.
func TestExprN(t *testing.T) {
	for k, row := range exprRows {
		kid := one()
		if row.items {
			kid = item()
		}
		ns := []int64{math.MinInt64, math.MinInt32, -1, 0, 1, 2, 3, 4, 5, 6, 17, 18, 21, 22, 256, 1 << 32, 1<<32 + 1, math.MaxInt64}
		for _, n := range ns {
			p, want := of(k, n, times(row.kids, kid)...), row.n <= n && n <= row.mostN
			tellProto(t, fmt.Sprint(kindNames[k], " with N ", n), placed(p), 1, want)
			// Which function an EFunc names, counts for the program, too.
			if k != api.EFunc {
				tell(t, fmt.Sprint(kindNames[k], " with N ", n), placed(p), want)
			}
		}
	}
}

// P9.1: how many kids each kind of expression has.
func TestExprKids(t *testing.T) {
	for k, row := range exprRows {
		kid := one()
		if row.items {
			kid = item()
		}
		for _, count := range []int{0, 1, 2, 3, 4, 100, 199, 200, 201, 202, 203, 400} {
			p := of(k, max(row.n, 0), times(count, kid)...)
			if k == api.EFunc {
				p.n = 2
			}
			tell(t, fmt.Sprint(kindNames[k], " with ", count, " kids"), placed(p), row.kids <= count && count <= row.most)
		}
	}
}

// P9.1: in each place for a kid, those kinds that may stand there.
func TestExprKidKinds(t *testing.T) {
	for k, row := range exprRows {
		for count := row.kids; count <= min(row.most, 3); count++ {
			for at := range count {
				for _, kid := range samples() {
					isItem := kid.kind == api.EItem || kid.kind == api.ENamed
					p := of(k, max(row.n, 0), times(count, one())...)
					if row.items {
						p.parts = times(count, item())
					}
					p.parts[at] = kid
					tell(t, fmt.Sprint(kindNames[k], " of ", count, ", ", at, " an ", kindNames[kid.kind]), placed(p), row.items == isItem)
				}
			}
		}
	}
}

// P9.1: EDots are of a function that has More.
func TestDots(t *testing.T) {
	p := host(returns(of(api.EDots, 0)))
	p.Protos[1].More = false
	tell(t, "EDots without More", p, false)
	p = host(returns(one()))
	p.Protos[1].More = false
	tell(t, "no EDots without More", p, true)
	tell(t, "EDots of function 0", alone(0, returns(of(api.EDots, 0))), true)
}

// stmtRow is what a statement of a kind may have: how many slots, targets and expressions; whether its first slot has two more behind it, and whether it has an Else.
type stmtRow struct {
	slots, mostSlots, targets, mostTargets, exprs, mostExprs int
	hidden, forks                                            bool
	exprKinds                                                string // where they are not all values
}

var stmtRows = map[api.StmtKind]stmtRow{
	api.SLocal:   {slots: 1, mostSlots: 200, mostExprs: 200},
	api.SAssign:  {targets: 1, mostTargets: 200, exprs: 1, mostExprs: 200},
	api.SCall:    {exprs: 1, mostExprs: 1, exprKinds: "ECall EMethod"},
	api.STest:    {exprs: 1, mostExprs: 1, forks: true},
	api.SForPrep: {slots: 1, mostSlots: 1, exprs: 2, mostExprs: 3, hidden: true},
	api.SForLoop: {slots: 2, mostSlots: 2, hidden: true, forks: true},
	api.SInPrep:  {slots: 1, mostSlots: 1, exprs: 1, mostExprs: 200, hidden: true},
	api.SInLoop:  {slots: 2, mostSlots: 200, hidden: true, forks: true},
	api.SFunc:    {slots: 1, mostSlots: 1, exprs: 1, mostExprs: 1, exprKinds: "EFunc"},
	api.SReturn:  {mostExprs: 200},
	api.SJump:    {},
}

// fitting answers an expression that may stand in a statement of kind k.
func fitting(k api.StmtKind) part {
	switch k {
	case api.SCall:
		return of(api.ECall, 0, one())
	case api.SFunc:
		return function(2)
	}
	return one()
}

// having answers a statement of kind k with so many slots, targets and expressions.
func having(k api.StmtKind, slots, targets, exprs int) stat {
	return stmt(k).slots(times(slots, 1)...).to(times(targets, of(api.ESlot, 0))...).by(times(exprs, fitting(k))...)
}

// P9.1: how many slots, targets and expressions each kind of statement has.
func TestStmtCounts(t *testing.T) {
	for k, row := range stmtRows {
		for _, count := range []int{0, 1, 2, 3, 4, 100, 199, 200, 201, 202} {
			what := fmt.Sprint("statement of kind ", k, " with ", count)
			tell(t, what+" slots", host(having(k, count, row.targets, row.exprs)), row.slots <= count && count <= row.mostSlots)
			tell(t, what+" targets", host(having(k, row.slots, count, row.exprs)), row.targets <= count && count <= row.mostTargets)
			tell(t, what+" expressions", host(having(k, row.slots, row.targets, count)), row.exprs <= count && count <= row.mostExprs)
		}
		// All that it may have at once.
		tell(t, fmt.Sprint("statement of kind ", k, " with all"), host(having(k, row.mostSlots, row.mostTargets, row.mostExprs)), true)
	}
}

// P9.1: in each place of a statement those kinds of expressions that may stand there.
func TestStmtExprKinds(t *testing.T) {
	for k, row := range stmtRows {
		for _, p := range samples() {
			for at := range min(row.mostExprs, 3) {
				s := having(k, row.slots, row.targets, max(row.exprs, at+1))
				s.exprs[at] = p
				want := p.kind != api.EItem && p.kind != api.ENamed
				if row.exprKinds != "" {
					want = slices.Contains(strings.Fields(row.exprKinds), kindNames[p.kind])
				}
				tell(t, fmt.Sprint("statement of kind ", k, ", expression ", at, " an ", kindNames[p.kind]), host(s), want)
			}
			for at := range min(row.mostTargets, 3) {
				s := having(k, row.slots, max(row.targets, at+1), row.exprs)
				s.targets[at] = p
				want := slices.Contains(strings.Fields("ESlot EUp EGlobal EIndex"), kindNames[p.kind])
				tell(t, fmt.Sprint("statement of kind ", k, ", target ", at, " an ", kindNames[p.kind]), host(s), want)
			}
		}
	}
}

// P9.1: a statement's slots; the first one of loops has two more behind it.
func TestStmtSlots(t *testing.T) {
	for k, row := range stmtRows {
		for slots := range 6 {
			for at := range min(row.mostSlots, 3) {
				for _, slot := range []int{math.MinInt, -1, 0, 1, slots - 4, slots - 3, slots - 2, slots - 1, slots, slots + 1, math.MaxInt - 2, math.MaxInt - 1, math.MaxInt} {
					s := having(k, max(row.slots, at+1), 0, row.exprs).to(times(row.targets, of(api.EGlobal, 0))...)
					for i := range s.Slots {
						s.Slots[i] = 0
					}
					s.Slots[at] = slot
					if k == api.SFunc {
						s = s.by(function(1))
					}
					p := alone(slots, s)
					p.Protos = append(p.Protos, lay(plain(0)))
					if k != api.SFunc {
						p.Protos = p.Protos[:1]
					}
					want := 0 <= slot && slot < slots && (!row.hidden || s.Slots[0]+2 < slots)
					tell(t, fmt.Sprint("statement of kind ", k, " of ", slots, " slots, slot ", at, " ", slot), p, want)
				}
			}
		}
	}
}

// P9.1: where a statement goes on, where a function begins, and lines.
func TestPlaces(t *testing.T) {
	for k, row := range stmtRows {
		for _, at := range []int{0, 1, 2} {
			build := func() (api.Program, *api.Proto, *api.Stmt) {
				stats := []stat{jump(), jump(), jump()}
				stats[at] = having(k, row.slots, row.targets, row.exprs)
				p := host(stats...)
				f := &p.Protos[1]
				return p, f, &f.Stmts[at]
			}
			_, f, _ := build()
			count := len(f.Stmts)
			for _, place := range []int{math.MinInt, -2, -1, 0, 1, 2, count - 1, count, count + 1, math.MaxInt} {
				isPlace := -1 <= place && place < count
				what := fmt.Sprint("statement ", at, " of kind ", k)
				p, f, s := build()
				s.Next = place
				tell(t, fmt.Sprint(what, ", Next ", place), p, isPlace && (k != api.SReturn || place == -1))
				p, f, s = build()
				s.Else = place
				tell(t, fmt.Sprint(what, ", Else ", place), p, isPlace && row.forks || place == 0)
				p, f, _ = build()
				f.Start = place
				tell(t, fmt.Sprint(what, ", Start ", place), p, isPlace && place != -1)
				p, f, s = build()
				s.Line = place
				tell(t, fmt.Sprint(what, ", Line ", place), p, place >= 1)
			}
		}
	}
	for _, start := range []int{math.MinInt, -2, -1, 0, 1, math.MaxInt} {
		p := alone(0)
		p.Protos[0].Start = start
		tell(t, fmt.Sprint("no statement, Start ", start), p, start == -1)
	}
	p := alone(0, stmt(api.STest).by(one()), jump())
	for next := -2; next < 4; next++ {
		for other := -2; other < 4; other++ {
			p.Protos[0].Stmts[0].Next, p.Protos[0].Stmts[0].Else = next, other
			tell(t, fmt.Sprint("STest, Next ", next, ", Else ", other), p, -1 <= next && next < 2 && -1 <= other && other < 2)
		}
	}
}

// P9.1: how many slots a function has, Params and Boxed.
func TestSlots(t *testing.T) {
	build := func(params, slots, boxed int) api.Program {
		p := alone(0, returns(function(1)))
		p.Protos = append(p.Protos, api.Proto{Params: params, Slots: slots, Boxed: make([]bool, boxed), Start: -1})
		return p
	}
	for _, slots := range []int{0, 1, 2, 60, 119, 120, 121, 122, 1000} {
		for _, params := range []int{math.MinInt, -1, 0, 1, slots - 1, slots, slots + 1, math.MaxInt} {
			tell(t, fmt.Sprint(slots, " slots, ", params, " of them Params"), build(params, slots, slots), slots <= 120 && 0 <= params && params <= slots)
		}
		for _, count := range []int{slots + 1, slots - 1, 0} {
			if count >= 0 && count != slots {
				tell(t, fmt.Sprint(slots, " slots, ", count, " Boxed"), build(0, slots, count), false)
			}
		}
		p := alone(slots, returns(of(api.ESlot, int64(slots-1))))
		tell(t, fmt.Sprint("the last of ", slots, " slots"), p, 1 <= slots && slots <= 120)
	}
	for _, slots := range []int{-1, math.MinInt} {
		tell(t, "slots below 0", build(slots, slots, 0), false)
		tell(t, "slots below 0", build(0, slots, 0), false)
	}
	tell(t, "slots without end", build(0, math.MaxInt, 0), false)
}

// tied answers a program of whose function 1 the expressions 0 and 1 are kids of 2, 3 is a target, 4 and 5 are kids of 6; 2 and 6 are values.
func tied() api.Program {
	return host(
		returns(of(api.EIndex, 0, one(), one())),
		stmt(api.SAssign).to(of(api.ESlot, 0)).by(of(api.EOr, 0, one(), one())),
	)
}

// P9.1: an expression that stands not just once, or not behind its kids.
func TestNotOnce(t *testing.T) {
	for what, spoil := range map[string]func(f *api.Proto){
		"twice a kid of one":              func(f *api.Proto) { f.Exprs[2].Kids = []int{0, 0} },
		"a kid of two":                    func(f *api.Proto) { f.Exprs[6].Kids = []int{0, 5} },
		"a kid of two, more":              func(f *api.Proto) { f.Exprs[2].Kind, f.Exprs[6].Kids = api.ECall, []int{2, 5} },
		"a kid and a value":               func(f *api.Proto) { f.Stmts[0].Exprs = []int{2, 0} },
		"a kid and a target":              func(f *api.Proto) { f.Exprs[5].Kind, f.Exprs[5].N, f.Stmts[1].Targets = api.ESlot, 0, []int{3, 5} },
		"a value of two statements":       func(f *api.Proto) { f.Stmts[1].Exprs = []int{6, 2} },
		"twice a value of one":            func(f *api.Proto) { f.Stmts[1].Exprs = []int{6, 6} },
		"twice a target of one":           func(f *api.Proto) { f.Stmts[1].Targets = []int{3, 3} },
		"a target and a value of one":     func(f *api.Proto) { f.Stmts[1].Exprs = []int{6, 3} },
		"a target and a value of another": func(f *api.Proto) { f.Stmts[0].Exprs = []int{2, 3} },
		"nowhere, at the end":             func(f *api.Proto) { f.Exprs = append(f.Exprs, api.Expr{Kind: api.ENil}) },
		"nowhere, a value":                func(f *api.Proto) { f.Stmts[0].Exprs = nil },
		"nowhere, with kids": func(f *api.Proto) {
			f.Exprs = append(f.Exprs, api.Expr{Kind: api.EParen, Kids: []int{2}})
			f.Stmts[0].Exprs = nil
		},
		"nowhere, a kid": func(f *api.Proto) { f.Exprs[6] = api.Expr{Kind: api.EParen, Kids: []int{4}} },
		"a kid behind":   func(f *api.Proto) { f.Exprs[2].Kids, f.Exprs[6].Kids = []int{0, 5}, []int{4, 1} },
		"a kid just behind": func(f *api.Proto) {
			f.Exprs[1], f.Exprs[2] = f.Exprs[2], f.Exprs[1]
			f.Exprs[1].Kids = []int{0, 2}
			f.Stmts[0].Exprs = []int{1}
		},
		"its own kid":                     func(f *api.Proto) { f.Exprs[2].Kids = []int{0, 2} },
		"its own kid, nowhere else":       func(f *api.Proto) { f.Exprs[2].Kids, f.Stmts[0].Exprs = []int{0, 2}, []int{1} },
		"a kid beyond the list":           func(f *api.Proto) { f.Exprs[2].Kids = []int{0, len(f.Exprs)} },
		"a kid below 0":                   func(f *api.Proto) { f.Exprs[2].Kids = []int{-1, 1} },
		"a kid far below 0":               func(f *api.Proto) { f.Exprs[2].Kids = []int{math.MinInt, 1} },
		"a value beyond the list":         func(f *api.Proto) { f.Stmts[0].Exprs = []int{len(f.Exprs)} },
		"one value beyond the list":       func(f *api.Proto) { f.Stmts[0].Exprs = []int{2, len(f.Exprs)} },
		"a value below 0":                 func(f *api.Proto) { f.Stmts[0].Exprs = []int{-1} },
		"a value far beyond the list":     func(f *api.Proto) { f.Stmts[0].Exprs = []int{2, math.MaxInt} },
		"a target beyond the list":        func(f *api.Proto) { f.Stmts[1].Targets = []int{len(f.Exprs)} },
		"a target below 0":                func(f *api.Proto) { f.Stmts[1].Targets = []int{3, -1} },
		"a jump with what stands nowhere": func(f *api.Proto) { f.Stmts[0].Kind = api.SJump },
	} {
		p := tied()
		spoil(&p.Protos[1])
		tell(t, what, p, false)
		tellProto(t, what, p, 1, false)
	}
}

// P9.1: an expression stands just once, behind its kids; in which order, is free.
func TestOnce(t *testing.T) {
	tell(t, "each once", tied(), true)
	for what, may := range map[string]func(f *api.Proto){
		"kids in another order": func(f *api.Proto) { f.Exprs[2].Kids = []int{1, 0} },
		"kids far ahead":        func(f *api.Proto) { f.Exprs[2].Kids, f.Exprs[6].Kids = []int{0, 1}, []int{5, 4} },
		"kids of one for the other": func(f *api.Proto) {
			f.Exprs[6].Kids, f.Stmts[0].Exprs, f.Exprs[2].Kids = []int{2, 5}, []int{4}, []int{1, 0}
		},
		"values of the other one": func(f *api.Proto) { f.Stmts[0].Exprs, f.Stmts[1].Exprs = []int{6}, []int{2} },
		"a target as a value": func(f *api.Proto) {
			f.Stmts[0].Exprs, f.Stmts[1].Exprs, f.Stmts[1].Targets = []int{6}, []int{3}, []int{2}
		},
	} {
		p := tied()
		may(&p.Protos[1])
		tell(t, what, p, true)
	}
}

// P9.1: the texts.
func TestStrs(t *testing.T) {
	many := func(count int) []string {
		var out []string
		for i := range count {
			out = append(out, fmt.Sprint("s", i))
		}
		return out
	}
	long := strings.Repeat("z", 65535)
	for what, c := range map[string]struct {
		strs []string
		want bool
	}{
		"none":                 {nil, true},
		"an empty one":         {[]string{""}, true},
		"any bytes":            {[]string{"\x00", "\xff", "\xff\x00", "end", " "}, true},
		"all but alike":        {[]string{"a", "A", "a ", "", " a", "aa", "a\x00"}, true},
		"two alike":            {[]string{"a", "a"}, false},
		"two empty ones":       {[]string{"", "b", ""}, false},
		"first and last alike": {append(many(4095), "s0"), false},
		"the last two alike":   {append(many(4095), "s4094"), false},
		"4096":                 {many(4096), true},
		"4097":                 {many(4097), false},
		"65535 bytes":          {[]string{long}, true},
		"65535 bytes, but one": {[]string{long, long[1:], long[2:] + "y"}, true},
		"65536 bytes":          {[]string{long + "z"}, false},
		"65536 bytes, last":    {[]string{"a", long, long + "z"}, false},
		"65535 bytes twice":    {[]string{long, "a", long}, false},
	} {
		p := alone(0)
		p.Strs = c.strs
		tell(t, "Strs: "+what, p, c.want)
		// Of Proto only how many there are counts.
		tellProto(t, "Strs: "+what, p, 0, true)
		p = alone(0, returns(of(api.EStr, int64(len(c.strs)-1))))
		p.Strs = c.strs
		tell(t, "the last one of Strs: "+what, p, c.want && len(c.strs) > 0)
		tellProto(t, "the last one of Strs: "+what, p, 0, len(c.strs) > 0)
		for _, k := range []api.ExprKind{api.EStr, api.EGlobal} {
			p = alone(0, returns(of(k, int64(len(c.strs)))))
			p.Strs = c.strs
			tell(t, "one more than Strs: "+what, p, false)
		}
	}
}

// P9.1: which function names which.
func TestAround(t *testing.T) {
	// Each string has the functions that one of them names.
	build := func(names ...string) api.Program {
		var p api.Program
		for _, row := range names {
			var parts []part
			for _, b := range []byte(row) {
				parts = append(parts, function(int64(b-'0')))
			}
			p.Protos = append(p.Protos, lay(plain(0), returns(of(api.EParen, 0, of(api.ECall, 0, one())), of(api.ECall, 0, append([]part{one()}, parts...)...))))
		}
		p.Protos[0].More = true
		return p
	}
	for _, c := range []struct {
		names []string
		want  bool
	}{
		{[]string{""}, true}, {[]string{"1", ""}, true}, {[]string{"12", "", ""}, true}, {[]string{"21", "", ""}, true},
		{[]string{"1", "2", ""}, true}, {[]string{"1", "23", "", ""}, true}, {[]string{"13", "2", "", ""}, true}, {[]string{"12", "3", "4", "", ""}, true},
		{[]string{"31", "2", "", "4", ""}, true}, {[]string{"1", "2", "3", "4", ""}, true}, {[]string{"4321", "", "", "", ""}, true},
		// None names it.
		{[]string{"", ""}, false}, {[]string{"1", "", ""}, false}, {[]string{"2", "", ""}, false}, {[]string{"12", "", "", ""}, false},
		// Two name it, or one twice.
		{[]string{"11", ""}, false}, {[]string{"12", "2", ""}, false}, {[]string{"122", "", ""}, false}, {[]string{"12", "3", "3", ""}, false}, {[]string{"1", "22", ""}, false},
		// One of a greater number, or itself.
		{[]string{"2", "", "1"}, false}, {[]string{"", "1"}, false}, {[]string{"1", "", "2"}, false}, {[]string{"13", "", "", "2"}, false}, {[]string{"", "2", "1"}, false},
		{[]string{"1", "1"}, false}, {[]string{"1", "2", "12"}, false}, {[]string{"12", "", "2"}, false},
		// Function 0.
		{[]string{"0"}, false}, {[]string{"1", "0"}, false}, {[]string{"01", ""}, false}, {[]string{"10", ""}, false}, {[]string{"12", "", "0"}, false},
	} {
		p := build(c.names...)
		tell(t, fmt.Sprintf("functions %q", c.names), p, c.want)
		for n := range c.names {
			tellProto(t, fmt.Sprintf("functions %q", c.names), p, n, true)
		}
	}
}

// P9.1: the Ups are variables of the function around.
func TestUps(t *testing.T) {
	// Function 1 has the slots 0 to 3, of which 1 and 3 are Boxed, and two Ups; 2 is in it, 3 is in 0, which has the slots 0 to 4.
	build := func(of1, of2, of3 []api.Up) api.Program {
		return api.Program{Protos: []api.Proto{
			lay(root(boxed(true, false, true, false, true)), returns(function(1), function(3))),
			lay(ups(boxed(false, true, false, true), of1...), returns(function(2))),
			lay(ups(boxed(true, true, true, true, true), of2...)),
			lay(ups(boxed(true), of3...)),
		}}
	}
	two := []api.Up{local(0), local(4)}
	tell(t, "no Ups", build(nil, nil, nil), true)
	for at := -2; at < 8; at++ {
		what := fmt.Sprint("At ", at)
		for _, behind := range []bool{false, true} {
			list := func(u api.Up, more api.Up) []api.Up {
				if behind {
					return []api.Up{more, u}
				}
				return []api.Up{u, more}
			}
			in0 := at == 0 || at == 2 || at == 4
			tell(t, what+" Local of function 0", build(list(local(at), local(2)), nil, nil), in0)
			tell(t, what+" Local of function 0, later", build(nil, nil, list(local(at), local(2))), in0)
			tell(t, what+" of function 0", build(list(outer(at), local(2)), nil, nil), false)
			tell(t, what+" of function 0, later", build(two, nil, list(outer(at), local(2))), false)
			tell(t, what+" Local of function 1", build(two, list(local(at), local(3)), two), at == 1 || at == 3)
			tell(t, what+" of function 1", build(two, list(outer(at), local(3)), two), at == 0 || at == 1)
			tell(t, what+" of function 1, without", build(nil, list(outer(at), local(3)), two), false)
		}
	}
	for _, at := range []int{math.MinInt, math.MaxInt, math.MinInt32, 1 << 32} {
		for _, local := range []bool{false, true} {
			u := []api.Up{{Local: local, At: at}}
			p := build(two, u, nil)
			tell(t, fmt.Sprint("Up ", u), p, false)
			tellProto(t, fmt.Sprint("Up ", u), p, 2, true)
		}
	}
	// One that is not Boxed; and what is Boxed needs no Up.
	p := build(two, []api.Up{local(1)}, nil)
	p.Protos[1].Boxed[1] = false
	tell(t, "not Boxed", p, false)
	p.Protos[1].Boxed[1], p.Protos[1].Boxed[3] = true, false
	tell(t, "Boxed", p, true)
}

// P9.1, limits: Ups.
func TestManyUps(t *testing.T) {
	for _, count := range []int{1, 59, 60, 61, 62, 100} {
		var locals, outers []api.Up
		for i := range count {
			locals, outers = append(locals, local(i)), append(outers, outer(i))
		}
		last := returns(of(api.EUp, int64(count-1)))
		p := api.Program{Protos: []api.Proto{
			lay(root(boxed(times(count, true)...)), returns(function(1))),
			lay(ups(plain(0), locals...), stmt(api.SCall).by(of(api.ECall, 0, function(2))), last),
			lay(ups(plain(0), outers...), last),
		}}
		tell(t, fmt.Sprint(count, " Ups"), p, count <= 60)
		for n := 1; n < 3; n++ {
			tellProto(t, fmt.Sprint(count, " Ups"), p, n, count <= 60)
		}
		p.Protos[2].Exprs[0].N++
		tell(t, fmt.Sprint(count, " Ups, one beyond"), p, false)
	}
}

// P9.1, limits: functions, side by side and in one another.
func TestManyFunctions(t *testing.T) {
	for _, count := range []int{1, 2, 100, 199, 200, 201, 202, 300} {
		wide := api.Program{Protos: []api.Proto{lay(root(plain(0)))}}
		deep := api.Program{}
		var stats []stat
		for n := 1; n < count; n++ {
			stats = append(stats, stmt(api.STest).by(function(int64(n))))
			wide.Protos = append(wide.Protos, lay(plain(0)))
			deep.Protos = append(deep.Protos, lay(root(plain(0)), returns(function(int64(n)))))
		}
		wide.Protos[0] = lay(root(plain(0)), stats...)
		deep.Protos = append(deep.Protos, lay(root(plain(0))))
		for _, p := range []api.Program{wide, deep} {
			tell(t, fmt.Sprint(count, " functions"), p, count <= 200)
			tellProto(t, fmt.Sprint(count, " functions"), p, 0, true)
			tellProto(t, fmt.Sprint(count, " functions"), p, count-1, true)
		}
	}
}

// P9.1, limits: statements and expressions of a function.
func TestManyOfEach(t *testing.T) {
	for _, count := range []int{4095, 4096, 4097, 5000} {
		want := count <= 4096
		tell(t, fmt.Sprint(count, " statements"), alone(0, times(count, jump())...), want)
		last := alone(0, times(count, jump())...)
		for i := range last.Protos[0].Stmts {
			last.Protos[0].Stmts[i].Next = count - 1
		}
		tell(t, fmt.Sprint(count, " statements, all on at the last one"), last, want)
		tests := times(count, stmt(api.STest).by(one()))
		tell(t, fmt.Sprint(count, " of both"), alone(0, tests...), want)
		var lists []stat
		for left := count; left > 0; left -= 200 {
			lists = append(lists, returns(times(min(left, 200), one())...))
		}
		tell(t, fmt.Sprint(count, " expressions"), alone(0, lists...), want)
		chain := one()
		for range count - 1 {
			chain = of(api.EParen, 0, chain)
		}
		tell(t, fmt.Sprint(count, " expressions in one another"), alone(0, returns(chain)), want)
	}
	// A table of as many items as there may be, each of which has a value of its own.
	table := of(api.ETable, 0, times(2047, item())...)
	tell(t, "2047 items", alone(0, returns(table)), true)
	tell(t, "2047 items, 4096 expressions", alone(0, returns(one(), table)), true)
	tell(t, "2047 items, 4097 expressions", alone(0, returns(one(), one(), table)), false)
	tell(t, "2048 items", alone(0, returns(of(api.ETable, 0, times(2048, item())...))), false)
}

// P9.1: greater than anything that is right; that is told soon.
func TestFarTooMany(t *testing.T) {
	kids := make([]int, 1<<20)
	exprs := times(4096, api.Expr{Kind: api.ETable, Kids: kids[:4096]})
	exprs[4095].Kids = kids
	many := times(200, api.Proto{More: true, Slots: 1, Boxed: []bool{true}, Stmts: times(4096, api.Stmt{Kind: api.SReturn, Exprs: kids, Next: -1, Line: 1}), Exprs: exprs})
	for what, p := range map[string]api.Program{
		"tables of one item": {Protos: many},
		"functions":          {Protos: times(1<<20, api.Proto{More: true, Start: -1})},
		"texts":              {Strs: make([]string, 1<<20), Protos: []api.Proto{{More: true, Start: -1}}},
		"statements":         {Protos: []api.Proto{{More: true, Stmts: make([]api.Stmt, 1<<20)}}},
		"expressions":        {Protos: []api.Proto{{More: true, Start: -1, Exprs: make([]api.Expr, 1<<20)}}},
		"Ups":                {Protos: []api.Proto{{More: true, Start: -1, Ups: make([]api.Up, 1<<20)}}},
		"Boxed":              {Protos: []api.Proto{{More: true, Start: -1, Slots: 1 << 20, Boxed: make([]bool, 1<<20)}}},
		"slots":              {Protos: []api.Proto{{More: true, Slots: 1, Boxed: []bool{false}, Stmts: []api.Stmt{{Kind: api.SLocal, Slots: kids, Next: -1, Line: 1}}}}},
		"values":             {Protos: []api.Proto{{More: true, Exprs: make([]api.Expr, 1), Stmts: []api.Stmt{{Kind: api.SReturn, Exprs: kids, Next: -1, Line: 1}}}}},
	} {
		if right.Right(p) {
			t.Error(what)
		}
	}
}

// P9.1: numbers of functions.
func TestProtoNumbers(t *testing.T) {
	p := rich()
	for n, want := range map[int]bool{math.MinInt: false, -3: false, -1: false, 0: true, 1: true, 2: true, 3: false, 4: false, math.MaxInt: false} {
		if got := right.Proto(p, n); got != want {
			t.Errorf("Proto %d = %v", n, got)
		}
	}
	if right.Proto(api.Program{}, 0) || right.Proto(api.Program{Strs: []string{"a"}}, -1) {
		t.Error("no function at all")
	}
	// One of them not right: the others are.
	for bad := range p.Protos {
		q := copied(p)
		q.Protos[bad].Start = 77
		tell(t, fmt.Sprint("Start of ", bad), q, false)
		for n := range q.Protos {
			tellProto(t, fmt.Sprint("Start of ", bad), q, n, n != bad)
		}
	}
	// How many functions and texts there are counts for a function, but no limit of theirs.
	q := api.Program{Strs: times(5000, "a"), Protos: times(300, lay(plain(0), returns(function(299), of(api.EStr, 4999))))}
	tell(t, "far too many", q, false)
	tellProto(t, "the last one of far too many", q, 299, true)
	q.Protos[7] = lay(plain(0), returns(function(300)))
	tellProto(t, "one beyond far too many", q, 7, false)
}
