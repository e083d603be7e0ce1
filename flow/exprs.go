package flow

import "twinstep/api"

// kinds are the expressions' kinds, by their nodes' ones; what a name is, is not told by that.
var kinds = [...]api.ExprKind{
	api.NNil: api.ENil, api.NTrue: api.ETrue, api.NFalse: api.EFalse, api.NInt: api.EInt,
	api.NStr: api.EStr, api.NDots: api.EDots, api.NFunc: api.EFunc, api.NIndex: api.EIndex,
	api.NCall: api.ECall, api.NMethod: api.EMethod, api.NBin: api.EBin, api.NAnd: api.EAnd,
	api.NOr: api.EOr, api.NUn: api.EUn, api.NTable: api.ETable, api.NItem: api.EItem,
	api.NNamed: api.ENamed, api.NParen: api.EParen,
}

// exprs lists expressions, and answers their places.
func (r *resolver) exprs(places []int) []int {
	var out []int
	for _, place := range places {
		out = append(out, r.expr(place))
	}
	return out
}

// expr lists an expression, its kids ahead of it, and answers its place.
func (r *resolver) expr(place int) int {
	n := r.nodes[place]
	e := r.head(n)
	if n.Kind != api.NFunc {
		e.Kids = r.exprs(n.Kids)
	}
	all := &r.at.program.Exprs
	*all = append(*all, e)
	return len(*all) - 1
}

// head answers an expression without its kids, of which a function has none.
func (r *resolver) head(n api.Node) api.Expr {
	e := api.Expr{Kind: kinds[n.Kind]}
	number := 0
	switch n.Kind {
	case api.NInt, api.NBin, api.NUn:
		e.N = n.N
		return e
	case api.NName:
		e.Kind, number = r.meaning(n)
	case api.NStr, api.NMethod:
		number = r.text(n.Name)
	case api.NFunc:
		number = r.function(n)
	case api.NDots:
		if !r.at.program.More {
			r.fail(api.ErrDots, n.Line)
		}
	}
	e.N = int64(number)
	return e
}
