package right

import (
	"slices"

	"twinstep/api"
)

// function is a function that is asked, and how many texts and functions its program has.
type function struct {
	api.Proto
	strs, protos int
}

// fits tells whether f is a right function.
func (f *function) fits() bool {
	if f.Slots < 0 || f.Slots > api.MaxSlots || f.Params < 0 || f.Params > f.Slots || len(f.Boxed) != f.Slots {
		return false
	}
	if len(f.Ups) > api.MaxUps || len(f.Stmts) > api.MaxNodes || len(f.Exprs) > api.MaxNodes {
		return false
	}
	return f.starts() && f.hangs() && all(f.Exprs, f.exprFits) && all(f.Stmts, f.stmtFits)
}

// starts tells whether f begins at a statement; without any, behind its end.
func (f *function) starts() bool {
	if len(f.Stmts) == 0 {
		return f.Start == -1
	}
	return f.Start >= 0 && f.Start < len(f.Stmts)
}

// hangs tells whether each expression stands just once: as a kid of one behind it, or in a statement.
func (f *function) hangs() bool {
	stands := make([]bool, len(f.Exprs))
	standing := func(places []int, below int) bool {
		return all(places, func(_ int, place int) bool {
			if place < 0 || place >= below || stands[place] {
				return false
			}
			stands[place] = true
			return true
		})
	}
	kids := func(at int, e api.Expr) bool { return standing(e.Kids, at) }
	own := func(_ int, s api.Stmt) bool {
		return standing(s.Targets, len(stands)) && standing(s.Exprs, len(stands))
	}
	return all(f.Exprs, kids) && all(f.Stmts, own) && !slices.Contains(stands, false)
}

// value tells whether the expression at a place is a value.
func (f *function) value(_ int, place int) bool {
	k := f.Exprs[place].Kind
	return k != api.EItem && k != api.ENamed
}

// of answers what tells whether the expression at a place is of one of these kinds.
func (f *function) of(these ...api.ExprKind) func(int, int) bool {
	return func(_ int, place int) bool { return slices.Contains(these, f.Exprs[place].Kind) }
}

// exprFits tells whether e has what it may have; its kids are places.
func (f *function) exprFits(_ int, e api.Expr) bool {
	return f.numberFits(e) && f.kidsFit(e)
}

// numberFits tells whether e has an N that its kind may have.
func (f *function) numberFits(e api.Expr) bool {
	below := func(count int) bool { return e.N >= 0 && e.N < int64(count) }
	operator := func(least, most api.Op) bool { return e.N >= int64(least) && e.N <= int64(most) }
	switch e.Kind {
	case api.EInt:
		return true
	case api.EStr, api.EGlobal, api.EMethod:
		return below(f.strs)
	case api.EFunc:
		return below(f.protos)
	case api.ESlot:
		return below(f.Slots)
	case api.EUp:
		return below(len(f.Ups))
	case api.EBin:
		return operator(api.Add, api.Ge)
	case api.EUn:
		return operator(api.Neg, api.Bnot)
	}
	return e.N == 0
}

// kidsFit tells whether e has kids that its kind may have, and stands in a function that may have it.
func (f *function) kidsFit(e api.Expr) bool {
	values := func(least, most int) bool { return are(e.Kids, span{least, most}, f.value) }
	switch e.Kind {
	case api.EDots:
		return f.More && values(0, 0)
	case api.ENil, api.ETrue, api.EFalse, api.EInt, api.EStr, api.EFunc, api.ESlot, api.EUp, api.EGlobal:
		return values(0, 0)
	case api.EUn, api.EItem, api.EParen:
		return values(1, 1)
	case api.EIndex, api.EBin, api.EAnd, api.EOr, api.ENamed:
		return values(2, 2)
	case api.ECall, api.EMethod:
		return values(1, 1+api.MaxVals)
	case api.ETable:
		return are(e.Kids, span{0, api.MaxNodes}, f.of(api.EItem, api.ENamed))
	}
	return false
}
