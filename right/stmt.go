package right

import "twinstep/api"

// row is what a statement of a kind may have.
type row struct {
	slots, targets, exprs span
	hidden                bool // two more slots are behind its first one
	forks                 bool // it has an Else
}

// rows are the statements' rows, by their kinds.
var rows = [...]row{
	api.SLocal:   {slots: span{1, api.MaxVals}, exprs: span{0, api.MaxVals}},
	api.SAssign:  {targets: span{1, api.MaxVals}, exprs: span{1, api.MaxVals}},
	api.SCall:    {exprs: span{1, 1}},
	api.STest:    {exprs: span{1, 1}, forks: true},
	api.SForPrep: {slots: span{1, 1}, hidden: true, exprs: span{2, 3}},
	api.SForLoop: {slots: span{2, 2}, hidden: true, forks: true},
	api.SInPrep:  {slots: span{1, 1}, hidden: true, exprs: span{1, api.MaxVals}},
	api.SInLoop:  {slots: span{2, api.MaxVals}, hidden: true, forks: true},
	api.SFunc:    {slots: span{1, 1}, exprs: span{1, 1}},
	api.SReturn:  {exprs: span{0, api.MaxVals}},
	api.SJump:    {},
}

// stmtFits tells whether s has what it may have; its expressions are places.
func (f *function) stmtFits(_ int, s api.Stmt) bool {
	if s.Kind < api.SLocal || s.Kind > api.SJump || s.Line < 1 {
		return false
	}
	may := rows[s.Kind]
	targets := f.of(api.ESlot, api.EUp, api.EGlobal, api.EIndex)
	return f.slotsFit(s, may) && are(s.Targets, may.targets, targets) &&
		are(s.Exprs, may.exprs, f.exprOf(s.Kind)) && f.goesOn(s, may)
}

// slotsFit tells whether s has slots that it may have.
func (f *function) slotsFit(s api.Stmt, may row) bool {
	inside := func(at, slot int) bool {
		below := f.Slots
		if may.hidden && at == 0 {
			below -= 2
		}
		return slot >= 0 && slot < below
	}
	return are(s.Slots, may.slots, inside)
}

// exprOf answers what tells whether the expression at a place may stand in a statement of kind k.
func (f *function) exprOf(k api.StmtKind) func(int, int) bool {
	switch k {
	case api.SCall:
		return f.of(api.ECall, api.EMethod)
	case api.SFunc:
		return f.of(api.EFunc)
	}
	return f.value
}

// goesOn tells whether s goes on at statements of f, or at its end.
func (f *function) goesOn(s api.Stmt, may row) bool {
	on := func(place int) bool { return place >= -1 && place < len(f.Stmts) }
	if s.Kind == api.SReturn && s.Next != -1 {
		return false
	}
	return on(s.Next) && (may.forks && on(s.Else) || !may.forks && s.Else == 0)
}
