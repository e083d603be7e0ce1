package nodes_test

import (
	"math"
	"math/rand"
	"slices"
	"strconv"
	"strings"
	"testing"

	"twinstep/api"
	"twinstep/nodes"
)

// tell asks for the same answer of Right whatever the order of the list is (P5.3), and for s as it was.
func tell(t *testing.T, what string, s api.Syntax, want bool) {
	t.Helper()
	r := rand.New(rand.NewSource(5))
	for i, o := range orders(r, s) {
		before := copied(o)
		if got := nodes.Right(o); got != want {
			t.Errorf("%s, order %d: Right = %v", what, i, got)
		}
		if same := nodes.Same(o, s); same != want {
			t.Errorf("%s, order %d: Same = %v", what, i, same)
		}
		if shown(o) != shown(before) {
			t.Errorf("%s, order %d: it was changed", what, i)
		}
	}
	if len(s.Nodes) < 500 && told(s) != want {
		t.Errorf("%s: the second reading says %v", what, !want)
	}
}

func right(t *testing.T, what string, s api.Syntax) {
	t.Helper()
	tell(t, what, s, true)
}

func wrong(t *testing.T, what string, s api.Syntax) {
	t.Helper()
	tell(t, what, s, false)
}

// kindNames are all kinds of nodes.
var kindNames = map[api.NodeKind]string{
	api.NBlock: "NBlock", api.NLocal: "NLocal", api.NAssign: "NAssign", api.NCallStat: "NCallStat", api.NDo: "NDo",
	api.NWhile: "NWhile", api.NRepeat: "NRepeat", api.NIf: "NIf", api.NFor: "NFor", api.NForIn: "NForIn",
	api.NLocalFunc: "NLocalFunc", api.NReturn: "NReturn", api.NBreak: "NBreak", api.NGoto: "NGoto", api.NLabel: "NLabel",
	api.NNil: "NNil", api.NTrue: "NTrue", api.NFalse: "NFalse", api.NInt: "NInt", api.NStr: "NStr", api.NDots: "NDots",
	api.NFunc: "NFunc", api.NName: "NName", api.NIndex: "NIndex", api.NCall: "NCall", api.NMethod: "NMethod",
	api.NBin: "NBin", api.NAnd: "NAnd", api.NOr: "NOr", api.NUn: "NUn", api.NTable: "NTable", api.NItem: "NItem",
	api.NNamed: "NNamed", api.NParen: "NParen",
}

// samples answers a node of each kind, with all that it needs.
func samples() []part {
	one := []string{"v"}
	return []part{
		block(), local(one, a()), assign(1, a(), a()), of(api.NCallStat, call(a())), do(),
		of(api.NWhile, a(), block()), of(api.NRepeat, block(), a()), of(api.NIf, a(), block()),
		of(api.NFor, a(), a(), block()).names("v"), of(api.NForIn, a(), block()).names("v"),
		of(api.NLocalFunc, function(0)).names("v"), returns(), of(api.NBreak), of(api.NGoto).name("l"), of(api.NLabel).name("l"),
		of(api.NNil), of(api.NTrue), of(api.NFalse), number(1), str("s"), of(api.NDots), function(0), a(), of(api.NIndex, a(), a()),
		call(a()), method(a()), bin(api.Add, a(), a()), of(api.NAnd, a(), a()), of(api.NOr, a(), a()), un(api.Neg, a()),
		of(api.NTable), of(api.NItem, a()), of(api.NNamed, a(), a()), paren(a()),
	}
}

// whole answers the least text that has p where its kind may stand, if there is such a place.
func whole(p part) api.Syntax {
	switch {
	case statement(p.Kind):
		return text(p)
	case expression(p.Kind):
		return value(p)
	case p.Kind == api.NBlock:
		return text(of(api.NDo, p))
	}
	return value(of(api.NTable, p))
}

// P5.1, of kinds; of Right all that follows, up to TestSame.
func TestKinds(t *testing.T) {
	stats := []int{2, 3, 4, 5, 6, 7, 8, 9, 10, 11, 12, 13, 14, 15}
	exprs := []int{20, 21, 22, 23, 24, 25, 26, 27, 28, 29, 30, 31, 32, 33, 34, 35, 38}
	for k := range 256 {
		if got, want := nodes.Stat(api.NodeKind(k)), slices.Contains(stats, k); got != want {
			t.Errorf("Stat(%d) = %v", k, got)
		}
		if got, want := nodes.Expr(api.NodeKind(k)), slices.Contains(exprs, k); got != want {
			t.Errorf("Expr(%d) = %v", k, got)
		}
	}
}

// Chapter 5, examples.
func TestExamples(t *testing.T) {
	node := func(k api.NodeKind, n int64, name string, kids ...int) api.Node {
		return api.Node{Kind: k, N: n, Name: name, Kids: kids, Line: 1}
	}
	example := func() api.Syntax {
		return api.Syntax{Root: 4, Nodes: []api.Node{
			node(api.NName, 0, "x"), node(api.NInt, 1, ""), node(api.NAssign, 1, "", 0, 1), node(api.NBlock, 0, "", 2), node(api.NFunc, 1, "", 3),
		}}
	}
	right(t, "x = 1", example())
	for what, spoil := range map[string]func(s *api.Syntax){
		"NInt twice":     func(s *api.Syntax) { s.Nodes[2].Kids = []int{1, 1} },
		"N 2":            func(s *api.Syntax) { s.Nodes[2].N = 2 },
		"NInt as target": func(s *api.Syntax) { s.Nodes[0] = node(api.NInt, 1, "") },
		"Root 3":         func(s *api.Syntax) { s.Root = 3 },
	} {
		s := example()
		spoil(&s)
		wrong(t, what, s)
	}
	b, c := name("b"), name("c")
	wrong(t, "a + b * c without its NParen", value(bin(api.Mul, bin(api.Add, a(), b), c)))
	right(t, "(a + b) * c", value(bin(api.Mul, paren(bin(api.Add, a(), b)), c)))
	right(t, "a + b * c", value(bin(api.Add, a(), bin(api.Mul, b, c))))
	right(t, "a .. b .. c", value(bin(api.Concat, a(), bin(api.Concat, b, c))))
	wrong(t, "a .. b .. c from the left", value(bin(api.Concat, bin(api.Concat, a(), b), c)))
}

// Each kind in a right syntax; each in the place of each other.
func TestEachKind(t *testing.T) {
	all := samples()
	if len(all) != len(kindNames) {
		t.Fatal("not all kinds")
	}
	for _, p := range all {
		right(t, kindNames[p.Kind], whole(p))
	}
	for k := range 256 {
		p := part{Node: api.Node{Kind: api.NodeKind(k), Line: 1}}
		if kindNames[p.Kind] == "" {
			wrong(t, "a statement of kind "+strconv.Itoa(k), text(p))
			wrong(t, "an expression of kind "+strconv.Itoa(k), value(p))
		}
	}
}

// Each place for a kid: those kinds that may stand there, and no others.
func TestKidsKinds(t *testing.T) {
	names := []string{"v"}
	for what, row := range map[string]struct {
		p   part
		at  int
		may string
	}{
		"NBlock":              {p: block(do(), of(api.NBreak)), at: 0, may: "LACDWRIFNOKGJ"},
		"NBlock, last":        {p: block(do(), of(api.NBreak)), at: 1, may: statements},
		"NBlock, alone":       {p: block(do()), at: 0, may: statements},
		"NLocal":              {p: local(names, a(), a(), a()), at: 1, may: expressions},
		"NLocal, last":        {p: local(names, a(), a(), a()), at: 2, may: expressions},
		"NAssign, target":     {p: assign(2, a(), a(), a(), a()), at: 0, may: "vx"},
		"NAssign, 2nd target": {p: assign(2, a(), a(), a(), a()), at: 1, may: "vx"},
		"NAssign, value":      {p: assign(2, a(), a(), a(), a()), at: 2, may: expressions},
		"NAssign, 2nd value":  {p: assign(2, a(), a(), a(), a()), at: 3, may: expressions},
		"NCallStat":           {p: of(api.NCallStat, call(a())), at: 0, may: "cm"},
		"NDo":                 {p: do(), at: 0, may: "B"},
		"NWhile, condition":   {p: of(api.NWhile, a(), block()), at: 0, may: expressions},
		"NWhile, block":       {p: of(api.NWhile, a(), block()), at: 1, may: "B"},
		"NRepeat, block":      {p: of(api.NRepeat, block(), a()), at: 0, may: "B"},
		"NRepeat, condition":  {p: of(api.NRepeat, block(), a()), at: 1, may: expressions},
		"NIf, condition":      {p: of(api.NIf, a(), block(), a(), block(), block()), at: 0, may: expressions},
		"NIf, block":          {p: of(api.NIf, a(), block(), a(), block(), block()), at: 1, may: "B"},
		"NIf, 2nd condition":  {p: of(api.NIf, a(), block(), a(), block(), block()), at: 2, may: expressions},
		"NIf, 2nd block":      {p: of(api.NIf, a(), block(), a(), block(), block()), at: 3, may: "B"},
		"NIf, last block":     {p: of(api.NIf, a(), block(), a(), block(), block()), at: 4, may: "B"},
		"NFor of two, 1st":    {p: of(api.NFor, a(), a(), block()).names("v"), at: 0, may: expressions},
		"NFor of two, 2nd":    {p: of(api.NFor, a(), a(), block()).names("v"), at: 1, may: expressions},
		"NFor of two, block":  {p: of(api.NFor, a(), a(), block()).names("v"), at: 2, may: "B"},
		"NFor of three, 1st":  {p: of(api.NFor, a(), a(), a(), block()).names("v"), at: 0, may: expressions},
		"NFor of three, 2nd":  {p: of(api.NFor, a(), a(), a(), block()).names("v"), at: 1, may: expressions},
		"NFor of three, 3rd":  {p: of(api.NFor, a(), a(), a(), block()).names("v"), at: 2, may: expressions},
		"NFor of three,block": {p: of(api.NFor, a(), a(), a(), block()).names("v"), at: 3, may: "B"},
		"NForIn, 1st":         {p: of(api.NForIn, a(), a(), block()).names("v"), at: 0, may: expressions},
		"NForIn, 2nd":         {p: of(api.NForIn, a(), a(), block()).names("v"), at: 1, may: expressions},
		"NForIn, block":       {p: of(api.NForIn, a(), a(), block()).names("v"), at: 2, may: "B"},
		"NLocalFunc":          {p: of(api.NLocalFunc, function(0)).names("v"), at: 0, may: "u"},
		"NReturn":             {p: returns(a(), a()), at: 0, may: expressions},
		"NReturn, last":       {p: returns(a(), a()), at: 1, may: expressions},
		"NFunc":               {p: function(0), at: 0, may: "B"},
		"NIndex, table":       {p: of(api.NIndex, a(), a()), at: 0, may: "vxcmp"},
		"NIndex, key":         {p: of(api.NIndex, a(), a()), at: 1, may: expressions},
		"NCall, function":     {p: call(a(), a(), a()), at: 0, may: "vxcmp"},
		"NCall, argument":     {p: call(a(), a(), a()), at: 1, may: expressions},
		"NCall, 2nd argument": {p: call(a(), a(), a()), at: 2, may: expressions},
		"NMethod, object":     {p: method(a(), a(), a()), at: 0, may: "vxcmp"},
		"NMethod, argument":   {p: method(a(), a(), a()), at: 1, may: expressions},
		"NMethod, 2nd":        {p: method(a(), a(), a()), at: 2, may: expressions},
		"NBin, 1st":           {p: bin(api.Eq, a(), a()), at: 0, may: "ntfisduvxcmbyep"},
		"NBin, 2nd":           {p: bin(api.Eq, a(), a()), at: 1, may: "ntfisduvxcmbyep"},
		"NAnd, 1st":           {p: of(api.NAnd, a(), a()), at: 0, may: "ntfisduvxcmbayep"},
		"NAnd, 2nd":           {p: of(api.NAnd, a(), a()), at: 1, may: "ntfisduvxcmbyep"},
		"NOr, 1st":            {p: of(api.NOr, a(), a()), at: 0, may: expressions},
		"NOr, 2nd":            {p: of(api.NOr, a(), a()), at: 1, may: "ntfisduvxcmbayep"},
		"NUn":                 {p: un(api.Neg, a()), at: 0, may: "ntfisduvxcmyep"},
		"NTable":              {p: of(api.NTable, of(api.NItem, a()), of(api.NItem, a())), at: 0, may: "wz"},
		"NTable, last":        {p: of(api.NTable, of(api.NItem, a()), of(api.NItem, a())), at: 1, may: "wz"},
		"NItem":               {p: of(api.NItem, a()), at: 0, may: expressions},
		"NNamed, key":         {p: of(api.NNamed, a(), a()), at: 0, may: expressions},
		"NNamed, value":       {p: of(api.NNamed, a(), a()), at: 1, may: expressions},
		"NParen":              {p: paren(a()), at: 0, may: expressions},
	} {
		for _, kid := range samples() {
			p := row.p
			p.parts = slices.Clone(p.parts)
			p.parts[row.at] = kid
			tell(t, what+" of an "+kindNames[kid.Kind], whole(p), strings.Contains(row.may, letter(kid.Kind)))
		}
	}
}

// How many kids each kind may have; those that are asked for here are of a kind that may stand there.
func TestHowManyKids(t *testing.T) {
	fixed := func(counts ...int) func(int) bool {
		return func(count int) bool { return slices.Contains(counts, count) }
	}
	list := func(least, most int) func(int) bool {
		return func(count int) bool { return least <= count && count <= most }
	}
	expr := func(int) part { return a() }
	lastBlock := func(ahead int) func(int) part {
		return func(i int) part {
			if i < ahead {
				return a()
			}
			return block()
		}
	}
	some := []int{0, 1, 2, 3, 4, 5, 6, 7, 50, 199, 200, 201, 202, 203, 300}
	for what, row := range map[string]struct {
		p   part
		kid func(i int) part
		may func(count int) bool
	}{
		"NBlock":     {of(api.NBlock), func(int) part { return of(api.NBreak) }, list(0, 300)},
		"NLocal":     {local([]string{"v"}), expr, list(0, 200)},
		"NAssign":    {assign(1), expr, list(2, 201)},
		"NAssign 3":  {assign(3), expr, list(4, 203)},
		"NCallStat":  {of(api.NCallStat), func(int) part { return call(a()) }, fixed(1)},
		"NDo":        {of(api.NDo), lastBlock(0), fixed(1)},
		"NWhile":     {of(api.NWhile), lastBlock(1), fixed(2)},
		"NFor":       {of(api.NFor).names("v"), lastBlock(2), fixed(3)},
		"NFor 3":     {of(api.NFor).names("v"), lastBlock(3), fixed(4)},
		"NFor 1":     {of(api.NFor).names("v"), lastBlock(1), fixed()},
		"NFor 4":     {of(api.NFor).names("v"), lastBlock(4), fixed()},
		"NFor 0":     {of(api.NFor).names("v"), lastBlock(0), fixed()},
		"NForIn 0":   {of(api.NForIn).names("v"), lastBlock(0), fixed()},
		"NForIn 1":   {of(api.NForIn).names("v"), lastBlock(1), fixed(2)},
		"NForIn 200": {of(api.NForIn).names("v"), lastBlock(200), fixed(201)},
		"NForIn 201": {of(api.NForIn).names("v"), lastBlock(201), fixed()},
		"NIf":        {of(api.NIf), lastBlock(1), fixed(2, 3)},
		"NIf 2":      {of(api.NIf), lastBlock(2), fixed()},
		"NLocalFunc": {of(api.NLocalFunc).names("v"), func(int) part { return function(0) }, fixed(1)},
		"NReturn":    {returns(), expr, list(0, 200)},
		"NBreak":     {of(api.NBreak), expr, fixed(0)},
		"NGoto":      {of(api.NGoto).name("l"), expr, fixed(0)},
		"NLabel":     {of(api.NLabel).name("l"), expr, fixed(0)},
		"NNil":       {of(api.NNil), expr, fixed(0)},
		"NTrue":      {of(api.NTrue), expr, fixed(0)},
		"NFalse":     {of(api.NFalse), expr, fixed(0)},
		"NInt":       {number(1), expr, fixed(0)},
		"NStr":       {str("s"), expr, fixed(0)},
		"NDots":      {of(api.NDots), expr, fixed(0)},
		"NFunc":      {of(api.NFunc), lastBlock(0), fixed(1)},
		"NName":      {a(), expr, fixed(0)},
		"NIndex":     {of(api.NIndex), expr, fixed(2)},
		"NCall":      {of(api.NCall), expr, list(1, 201)},
		"NMethod":    {of(api.NMethod).name("m"), expr, list(1, 201)},
		"NBin":       {of(api.NBin).n(1), expr, fixed(2)},
		"NAnd":       {of(api.NAnd), expr, fixed(2)},
		"NOr":        {of(api.NOr), expr, fixed(2)},
		"NUn":        {of(api.NUn).n(18), expr, fixed(1)},
		"NTable":     {of(api.NTable), func(int) part { return of(api.NItem, a()) }, list(0, 300)},
		"NTable of named": {of(api.NTable), func(i int) part {
			if i%2 == 0 {
				return of(api.NItem, a())
			}
			return of(api.NNamed, a(), a())
		}, list(0, 300)},
		"NItem":  {of(api.NItem), expr, fixed(1)},
		"NNamed": {of(api.NNamed), expr, fixed(2)},
		"NParen": {of(api.NParen), expr, fixed(1)},
	} {
		for _, count := range some {
			p := row.p
			for i := range count {
				p.parts = append(p.parts, row.kid(i))
			}
			tell(t, what+" with "+strconv.Itoa(count)+" kids", whole(p), row.may(count))
		}
	}
	for count := range 201 {
		exprs := times(count, a())
		right(t, "lists of "+strconv.Itoa(count), text(local([]string{"v"}, exprs...), do(returns(call(a(), exprs...), method(a(), exprs...))), returns(exprs...)))
	}
}

// NRepeat, and kids that would be right in another order.
func TestKidsInOrder(t *testing.T) {
	b, c := block(), a()
	right(t, "NRepeat", text(of(api.NRepeat, b, c)))
	for what, p := range map[string]part{
		"NRepeat turned":              of(api.NRepeat, c, b),
		"NRepeat without condition":   of(api.NRepeat, b),
		"NRepeat of two blocks":       of(api.NRepeat, b, b),
		"NRepeat of two conditions":   of(api.NRepeat, b, c, c),
		"NRepeat of nothing":          of(api.NRepeat),
		"NWhile turned":               of(api.NWhile, b, c),
		"NWhile of two blocks":        of(api.NWhile, b, b),
		"NFor, block first":           of(api.NFor, b, c, c).names("v"),
		"NFor, block between":         of(api.NFor, c, b, c).names("v"),
		"NFor without block":          of(api.NFor, c, c, c).names("v"),
		"NForIn, block first":         of(api.NForIn, b, c).names("v"),
		"NForIn without block":        of(api.NForIn, c, c).names("v"),
		"NForIn of a block alone":     of(api.NForIn, b).names("v"),
		"NForIn of nothing":           of(api.NForIn).names("v"),
		"NIf of nothing":              of(api.NIf),
		"NIf of a block":              of(api.NIf, b),
		"NIf of a condition":          of(api.NIf, c),
		"NIf turned":                  of(api.NIf, b, c),
		"NIf, a condition at its end": of(api.NIf, c, b, c),
		"NIf, a pair turned":          of(api.NIf, c, b, b, c),
		"NIf of two conditions":       of(api.NIf, c, c, b),
		"NIf of three blocks":         of(api.NIf, c, b, b, b),
		"NReturn within a call":       of(api.NCallStat, call(c, returns())),
		"NBlock in an NBlock":         block(),
	} {
		wrong(t, what, text(p))
	}
	for pairs := range 60 {
		var kids []part
		for range pairs {
			kids = append(kids, c, b)
		}
		tell(t, "NIf of pairs", text(of(api.NIf, kids...)), pairs > 0)
		tell(t, "NIf of pairs, and a block", text(of(api.NIf, append(kids, b)...)), pairs > 0)
	}
}

// An NReturn is the last one of its block.
func TestReturns(t *testing.T) {
	wraps := map[string]func(stats ...part) part{
		"the root": block,
		"NDo":      do,
		"NWhile":   func(stats ...part) part { return of(api.NWhile, a(), block(stats...)) },
		"NRepeat":  func(stats ...part) part { return of(api.NRepeat, block(stats...), a()) },
		"NIf":      func(stats ...part) part { return of(api.NIf, a(), block(stats...)) },
		"else":     func(stats ...part) part { return of(api.NIf, a(), block(), block(stats...)) },
		"NFor":     func(stats ...part) part { return of(api.NFor, a(), a(), block(stats...)).names("v") },
		"NForIn":   func(stats ...part) part { return of(api.NForIn, a(), block(stats...)).names("v") },
		"NFunc":    func(stats ...part) part { return of(api.NLocalFunc, function(0, stats...)).names("v") },
	}
	for what, wrap := range wraps {
		put := func(stats ...part) api.Syntax {
			if what == "the root" {
				return text(stats...)
			}
			return text(wrap(stats...), do())
		}
		right(t, what+": return", put(returns()))
		right(t, what+": break return", put(of(api.NBreak), returns(a())))
		wrong(t, what+": return break", put(returns(a()), of(api.NBreak)))
		wrong(t, what+": return return", put(returns(), returns()))
		wrong(t, what+": break return break", put(of(api.NBreak), returns(), of(api.NBreak)))
		right(t, what+": do return end break", put(do(returns()), of(api.NBreak)))
	}
}

// An NAssign's N: how many of its kids are targets.
func TestTargets(t *testing.T) {
	for _, kids := range []int{0, 1, 2, 3, 4, 5} {
		for _, n := range []int64{math.MinInt64, -1, 0, 1, 2, 3, 4, 5, 6, 200, 201, 256, 257, 1<<32 + 1, 1<<62 + 1, math.MaxInt64} {
			tell(t, "NAssign N "+strconv.FormatInt(n, 10), text(assign(n, times(kids, a())...)), 1 <= n && n < int64(kids))
		}
	}
	for _, targets := range []int{1, 2, 100, 199, 200, 201, 202} {
		for _, values := range []int{1, 2, 100, 199, 200, 201, 202} {
			p := assign(int64(targets), times(targets+values, a())...)
			tell(t, strconv.Itoa(targets)+" targets, "+strconv.Itoa(values)+" values", text(p), targets <= 200 && values <= 200)
		}
	}
	index := of(api.NIndex, a(), a())
	right(t, "a[a], a = 1", text(assign(2, index, a(), number(1))))
	wrong(t, "a[a], 1 = a", text(assign(2, index, number(1), a())))
	wrong(t, "a[a], a = (none)", text(assign(2, index, a())))
	wrong(t, "a 1 by N 0", text(assign(0, a(), number(1))))
}

// The places in which a name stands, each with that name.
func named(s string) map[string]api.Syntax {
	label := func(k api.NodeKind) api.Syntax { return text(of(k).name(s)) }
	return map[string]api.Syntax{
		"NLocal":       text(local([]string{s})),
		"NLocal, last": text(local([]string{"v", "w", s})),
		"NLocal, 1st":  text(local([]string{s, "w", "v"})),
		"NFor":         text(of(api.NFor, a(), a(), block()).names(s)),
		"NForIn":       text(of(api.NForIn, a(), block()).names(s)),
		"NForIn, last": text(of(api.NForIn, a(), block()).names("v", s)),
		"NLocalFunc":   text(of(api.NLocalFunc, function(0)).names(s)),
		"NFunc":        value(function(0).names(s)),
		"NFunc, last":  value(function(1).names("v", "w", s)),
		"NGoto":        label(api.NGoto),
		"NLabel":       label(api.NLabel),
		"NName":        value(name(s)),
		"NMethod":      value(method(a()).name(s)),
	}
}

func TestNames(t *testing.T) {
	ask := func(s string, want bool) {
		for what, syntax := range named(s) {
			tell(t, what+" "+strconv.Quote(s), syntax, want)
		}
	}
	long := strings.Repeat("n", 59)
	for _, s := range []string{"a", "_", "Z", "z9", "_9", "__", "A_b9", "End", "AND", "ends", "en", "_end", "self", "andor", long, long + "n", long + "9"} {
		ask(s, true)
	}
	for _, s := range append(strings.Fields(words), "", "9", "9a", "0_", long+"nn", long+"n9", strings.Repeat("n", 70000), "a b", " a", "a ", "a-b", "a.b", "é", "aé", "a\x00", "\xff", "a\n", "..", "...") {
		ask(s, false)
	}
	for b := range 256 {
		isLetter := strings.IndexByte("ABCDEFGHIJKLMNOPQRSTUVWXYZabcdefghijklmnopqrstuvwxyz_", byte(b)) >= 0
		isDigit := strings.IndexByte("0123456789", byte(b)) >= 0
		tell(t, "a name of byte "+strconv.Itoa(b), value(name(string([]byte{byte(b)}))), isLetter)
		tell(t, "a name with byte "+strconv.Itoa(b), value(name(string([]byte{'q', byte(b)}))), isLetter || isDigit)
		tell(t, "a name of Names with byte "+strconv.Itoa(b), text(local([]string{string([]byte{'q', byte(b), 'q'})})), isLetter || isDigit)
	}
}

func TestHowManyNames(t *testing.T) {
	for what, row := range map[string]struct {
		p           part
		least, most int
	}{
		"NLocal":     {of(api.NLocal), 1, 200},
		"NFor":       {of(api.NFor, a(), a(), block()), 1, 1},
		"NForIn":     {of(api.NForIn, a(), block()), 1, 200},
		"NLocalFunc": {of(api.NLocalFunc, function(0)), 1, 1},
		"NFunc":      {function(0), 0, 200},
		"NFunc 1":    {function(1), 0, 200},
	} {
		for _, count := range []int{0, 1, 2, 3, 100, 199, 200, 201, 202, 1000} {
			tell(t, what+" with "+strconv.Itoa(count)+" Names", whole(row.p.names(times(count, "v")...)), row.least <= count && count <= row.most)
		}
	}
}

func TestTexts(t *testing.T) {
	for _, s := range []string{"", "end", "9", " ", "\x00\xff\r\n", "é", strings.Repeat("s", 61), strings.Repeat("s", 65534), strings.Repeat("\xff", 65535)} {
		right(t, "NStr of "+strconv.Itoa(len(s)), value(str(s)))
	}
	for _, count := range []int{65536, 65537, 200000} {
		wrong(t, "NStr of "+strconv.Itoa(count), value(str(strings.Repeat("s", count))))
	}
}

// The N of each kind.
func TestNumbers(t *testing.T) {
	numbers := []int64{math.MinInt64, math.MinInt64 + 1, -256, -2, -1, 255, 256, 257, 258, 256 + 18, 1 << 32, 1<<32 + 1, 1 << 40, math.MaxInt64}
	for n := range 30 {
		numbers = append(numbers, int64(n))
	}
	for _, p := range samples() {
		if p.Kind == api.NAssign {
			continue
		}
		for _, n := range numbers {
			want := n == 0
			switch p.Kind {
			case api.NInt:
				want = true
			case api.NFunc:
				want = n == 0 || n == 1
			case api.NBin:
				want = 1 <= n && n <= 17
			case api.NUn:
				want = 18 <= n && n <= 21
			}
			tell(t, kindNames[p.Kind]+" with N "+strconv.FormatInt(n, 10), whole(p.n(n)), want)
		}
	}
}

// A Name, or Names, where the table has none.
func TestNothingElse(t *testing.T) {
	for _, p := range samples() {
		if !slices.Contains([]api.NodeKind{api.NGoto, api.NLabel, api.NName, api.NMethod, api.NStr}, p.Kind) {
			wrong(t, kindNames[p.Kind]+" with a Name", whole(p.name("x")))
		}
		if !slices.Contains([]api.NodeKind{api.NLocal, api.NFor, api.NForIn, api.NLocalFunc, api.NFunc}, p.Kind) {
			wrong(t, kindNames[p.Kind]+" with Names", whole(p.names("x")))
		}
		empty := p
		if len(p.Names) == 0 {
			empty.Names = []string{}
			right(t, kindNames[p.Kind]+" with an empty list of Names", whole(empty))
		}
	}
}

func TestLines(t *testing.T) {
	for _, p := range samples() {
		for line, want := range map[int]bool{math.MinInt: false, -1: false, 0: false, 1: true, 2: true, 65536: true, math.MaxInt: true} {
			p.Line = line
			tell(t, kindNames[p.Kind]+" of line "+strconv.Itoa(line), whole(p), want)
		}
	}
	root := text()
	root.Nodes[root.Root].Line = 0
	wrong(t, "the root of line 0", root)
}

// The root: an NFunc without Names, N 1.
func TestRoots(t *testing.T) {
	right(t, "an empty text", text())
	for n, want := range map[int64]bool{math.MinInt64: false, -1: false, 0: false, 1: true, 2: false, 257: false, math.MaxInt64: false} {
		tell(t, "a root with N "+strconv.FormatInt(n, 10), lay(function(n)), want)
	}
	wrong(t, "a root with Names", lay(function(1).names("v")))
	wrong(t, "a root with a Name", lay(function(1).name("v")))
	wrong(t, "a root without a kid", lay(of(api.NFunc).n(1)))
	wrong(t, "a root of two blocks", lay(of(api.NFunc, block(), block()).n(1)))
	for _, p := range samples() {
		wrong(t, "a root that is an "+kindNames[p.Kind], lay(p))
	}
	inner := value(function(1, returns(a())))
	for i, n := range inner.Nodes {
		inner.Root = i
		tell(t, "a root at an "+kindNames[n.Kind], inner, i == len(inner.Nodes)-1)
	}
}

// Roots and kids that are no places; no node at all.
func TestPlaces(t *testing.T) {
	for _, root := range []int{math.MinInt, -1, 0, 1, math.MaxInt} {
		for _, s := range []api.Syntax{{Root: root}, {Root: root, Nodes: []api.Node{}}} {
			if nodes.Right(s) || nodes.Same(s, s) || nodes.Same(s, text()) || nodes.Same(text(), s) {
				t.Error("no nodes, Root", root)
			}
		}
	}
	base := text(assign(1, a(), number(1)), returns(call(a(), a())))
	for _, place := range []int{math.MinInt, -1 << 32, -2, -1, len(base.Nodes), len(base.Nodes) + 1, 1 << 32, math.MaxInt} {
		s := copied(base)
		s.Root = place
		wrong(t, "Root "+strconv.Itoa(place), s)
		for i, n := range base.Nodes {
			for k := range n.Kids {
				s := copied(base)
				s.Nodes[i].Kids[k] = place
				wrong(t, "a kid "+strconv.Itoa(place), s)
			}
			s := copied(base)
			s.Nodes[i].Kids = append(s.Nodes[i].Kids, place)
			wrong(t, "one more kid "+strconv.Itoa(place), s)
		}
	}
}

// put answers s with one more node.
func put(s api.Syntax, n api.Node) api.Syntax {
	s = copied(s)
	n.Line = 1
	s.Nodes = append(s.Nodes, n)
	return s
}

// Nodes that are a kid twice, or of none; rings.
func TestTies(t *testing.T) {
	base := text(do(), of(api.NBreak), returns(a(), a(), bin(api.Add, a(), a()), of(api.NTable, of(api.NItem, a()))))
	right(t, "the base", base)
	for i, n := range base.Nodes {
		for k := range n.Kids {
			for place := range base.Nodes {
				s := copied(base)
				s.Nodes[i].Kids[k] = place
				tell(t, "another kid", s, place == n.Kids[k])
				s = copied(base)
				s.Nodes[i].Kids = append(s.Nodes[i].Kids, place)
				wrong(t, "one more kid", s)
			}
			s := copied(base)
			s.Nodes[i].Kids = slices.Delete(s.Nodes[i].Kids, k, k+1)
			wrong(t, "a kid less", s)
		}
	}
	size := len(base.Nodes)
	wrong(t, "a name that nothing reaches", put(base, api.Node{Kind: api.NName, Name: "b"}))
	wrong(t, "a break that nothing reaches", put(base, api.Node{Kind: api.NBreak}))
	wrong(t, "a second root", put(put(base, api.Node{Kind: api.NBlock}), api.Node{Kind: api.NFunc, N: 1, Kids: []int{size}}))
	wrong(t, "a ring of one", put(base, api.Node{Kind: api.NParen, Kids: []int{size}}))
	wrong(t, "a ring of two", put(put(base, api.Node{Kind: api.NParen, Kids: []int{size + 1}}), api.Node{Kind: api.NParen, Kids: []int{size}}))
	wrong(t, "a ring of statements", put(put(base, api.Node{Kind: api.NDo, Kids: []int{size + 1}}), api.Node{Kind: api.NBlock, Kids: []int{size}}))
	wrong(t, "a ring of first operands", put(put(base, api.Node{Kind: api.NIndex, Kids: []int{size, size + 1}}), api.Node{Kind: api.NName, Name: "b"}))
	ringOfTables := put(put(base, api.Node{Kind: api.NTable, Kids: []int{size + 1}}), api.Node{Kind: api.NItem, Kids: []int{size}})
	wrong(t, "a ring of tables", ringOfTables)
	wrong(t, "the root as a kid", api.Syntax{Root: 2, Nodes: []api.Node{
		{Kind: api.NLocalFunc, Names: []string{"f"}, Kids: []int{2}, Line: 1}, {Kind: api.NBlock, Kids: []int{0}, Line: 1}, {Kind: api.NFunc, N: 1, Kids: []int{1}, Line: 1},
	}})
	wrong(t, "the root as a value", api.Syntax{Root: 2, Nodes: []api.Node{
		{Kind: api.NReturn, Kids: []int{2}, Line: 1}, {Kind: api.NBlock, Kids: []int{0}, Line: 1}, {Kind: api.NFunc, N: 1, Kids: []int{1}, Line: 1},
	}})
	wrong(t, "the root as its own kid", api.Syntax{Nodes: []api.Node{{Kind: api.NFunc, N: 1, Kids: []int{0}, Line: 1}}})
	alone := put(put(text(), api.Node{Kind: api.NReturn, Kids: []int{1}}), api.Node{Kind: api.NBreak})
	wrong(t, "the root as a kid of a node that nothing reaches", alone)
}

// 4096 nodes and 4097.
func TestHowManyNodes(t *testing.T) {
	row := func(count int) part {
		p := a()
		for range count {
			p = bin(api.Add, p, a())
		}
		return p
	}
	for more, want := range []bool{true, false, false} {
		what := strconv.Itoa(4096+more) + " nodes: "
		breaks := func(count int) []part { return times(count+more, of(api.NBreak)) }
		tell(t, what+"a block", text(breaks(4094)...), want)
		tell(t, what+"two blocks", text(do(breaks(2000)...), do(times(2090, of(api.NBreak))...)), want)
		tell(t, what+"a table", text(append(breaks(2), returns(of(api.NTable, times(2045, of(api.NItem, a()))...)))...), want)
		tell(t, what+"a long row of operators", text(append(breaks(0), returns(row(2046)))...), want)
		var pairs []part
		for range 2046 {
			pairs = append(pairs, a(), block())
		}
		tell(t, what+"an NIf", text(append(breaks(1), of(api.NIf, pairs...))...), want)
		index := nest(2046, a(), func(p part) part { return of(api.NIndex, p, a()) })
		tell(t, what+"a long row of keys", text(append(breaks(0), returns(index))...), want)
	}
	right(t, "4095 nodes", text(times(4093, of(api.NBreak))...))
}

// Each way in which an expression stands in another one: how many levels it adds.
func TestLevelsOfExpressions(t *testing.T) {
	for what, row := range map[string]struct {
		by   int
		wrap func(p part) part
	}{
		"NParen":            {1, paren},
		"NUn":               {1, func(p part) part { return un(api.Not, p) }},
		"NBin, 1st":         {0, func(p part) part { return bin(api.Add, p, a()) }},
		"NBin, 2nd":         {1, func(p part) part { return bin(api.Concat, a(), p) }},
		"NUn of an NParen":  {2, func(p part) part { return un(api.Neg, paren(p)) }},
		"NAnd, 1st":         {0, func(p part) part { return of(api.NAnd, p, a()) }},
		"NAnd, 2nd":         {2, func(p part) part { return of(api.NAnd, a(), paren(p)) }},
		"NOr, 1st":          {0, func(p part) part { return of(api.NOr, p, a()) }},
		"NOr, 2nd":          {2, func(p part) part { return of(api.NOr, a(), paren(p)) }},
		"NIndex, table":     {0, func(p part) part { return of(api.NIndex, p, a()) }},
		"NIndex, key":       {1, func(p part) part { return of(api.NIndex, a(), p) }},
		"NCall, function":   {0, func(p part) part { return call(p) }},
		"NCall, argument":   {1, func(p part) part { return call(a(), p) }},
		"NCall, 3rd":        {1, func(p part) part { return call(a(), a(), a(), p) }},
		"NMethod, object":   {0, func(p part) part { return method(p, a()) }},
		"NMethod, argument": {1, func(p part) part { return method(a(), p) }},
		"NItem":             {1, func(p part) part { return of(api.NTable, of(api.NItem, p)) }},
		"NItem, 2nd":        {1, func(p part) part { return of(api.NTable, of(api.NItem, a()), of(api.NItem, p)) }},
		"NNamed, key":       {1, func(p part) part { return of(api.NTable, of(api.NNamed, p, a())) }},
		"NNamed, value":     {1, func(p part) part { return of(api.NTable, of(api.NNamed, a(), p)) }},
		"NFunc":             {2, func(p part) part { return function(0, returns(p)) }},
	} {
		count := 49
		if row.by == 0 {
			count = 150
		}
		// The expression of a return in the root's block has level 2.
		inner := 100 - 2 - count*row.by
		for more, want := range []bool{true, false} {
			p := nest(count, nest(inner+more, a(), paren), row.wrap)
			tell(t, what+", level "+strconv.Itoa(100+more), value(p), want)
		}
		if row.by == 1 {
			right(t, what+", level 100 by itself", value(nest(98, a(), row.wrap)))
			wrong(t, what+", level 101 by itself", value(nest(99, a(), row.wrap)))
		}
		if row.by == 2 {
			right(t, what+", level 100 by twos", value(nest(49, a(), row.wrap)))
			wrong(t, what+", level 102 by twos", value(nest(50, a(), row.wrap)))
		}
		if row.by == 0 {
			outer := nest(97, nest(150, a(), row.wrap), paren)
			right(t, what+", level 99, and others of level 100", value(outer))
			wantTwo := what == "NCall, function" // it alone has no second kid, which would be one level on
			tell(t, what+", level 100, and others of level 101", value(paren(outer)), wantTwo)
		}
	}
	ladder := func(p part) part {
		p = bin(api.Mul, a(), un(api.Neg, p))
		for _, op := range []api.Op{api.Add, api.Concat, api.Shl, api.Band, api.Bxor, api.Bor, api.Lt} {
			p = bin(op, a(), p)
		}
		return of(api.NOr, a(), of(api.NAnd, a(), p))
	}
	right(t, "operators on the right side, level 100", value(nest(87, ladder(a()), paren)))
	wrong(t, "operators on the right side, level 101", value(nest(88, ladder(a()), paren)))
}

// Each way in which a block stands in another one: how many levels it adds.
func TestLevelsOfBlocks(t *testing.T) {
	for what, row := range map[string]struct {
		by   int
		wrap func(p part) part
	}{
		"NDo":             {1, func(p part) part { return do(p) }},
		"NDo, 2nd":        {1, func(p part) part { return do(of(api.NBreak), p) }},
		"NWhile":          {1, func(p part) part { return of(api.NWhile, a(), block(p)) }},
		"NRepeat":         {1, func(p part) part { return of(api.NRepeat, block(p), a()) }},
		"NIf":             {1, func(p part) part { return of(api.NIf, a(), block(p)) }},
		"NIf, 2nd":        {1, func(p part) part { return of(api.NIf, a(), block(), a(), block(p)) }},
		"NIf, at the end": {1, func(p part) part { return of(api.NIf, a(), block(), block(p)) }},
		"NFor":            {1, func(p part) part { return of(api.NFor, a(), a(), a(), block(p)).names("v") }},
		"NForIn":          {1, func(p part) part { return of(api.NForIn, a(), a(), block(p)).names("v") }},
		"NLocalFunc":      {2, func(p part) part { return of(api.NLocalFunc, function(1, p)).names("v") }},
		"NFunc":           {2, func(p part) part { return assign(1, a(), function(1, p)) }},
		"NFunc in a call": {3, func(p part) part { return of(api.NCallStat, call(a(), function(1, p))) }},
	} {
		// The root's block has level 1: 33 times three is 99.
		count := 99 / row.by
		deep := func(inner part, dos int) api.Syntax {
			return text(nest(count, nest(dos, inner, func(p part) part { return do(p) }), row.wrap))
		}
		left := 99 - count*row.by
		for bare, inner := range map[string]part{"a break": of(api.NBreak), "a label": of(api.NLabel).name("l"), "a return": returns(), "a local": local([]string{"v"})} {
			right(t, what+", level 100, with "+bare, deep(inner, left))
			wrong(t, what+", level 101, with "+bare, deep(inner, left+1))
		}
		for _, p := range samples() {
			if statement(p.Kind) && len(p.parts) > 0 {
				wrong(t, what+", level 100, with an "+kindNames[p.Kind], deep(p, left))
			}
		}
	}
	right(t, "NDo, level 99, with an expression", text(nest(98, returns(a()), func(p part) part { return do(p) })))
	right(t, "NDo, level 98, with a function", text(nest(97, returns(function(0)), func(p part) part { return do(p) })))
	wrong(t, "NDo, level 99, with a function", text(nest(98, returns(function(0)), func(p part) part { return do(p) })))
	right(t, "an empty table of level 100", value(nest(98, of(api.NTable), paren)))
	wrong(t, "a table of level 100", value(nest(98, of(api.NTable, of(api.NItem, a())), paren)))
}

// operator is an operator, and how much it binds.
type operator struct {
	what  string
	binds int
	two   func(x, y part) part
}

func operators() []operator {
	list := []operator{
		{"or", 1, func(x, y part) part { return of(api.NOr, x, y) }},
		{"and", 2, func(x, y part) part { return of(api.NAnd, x, y) }},
	}
	binds := []int{
		api.Eq: 3, api.Ne: 3, api.Lt: 3, api.Le: 3, api.Gt: 3, api.Ge: 3, api.Bor: 4, api.Bxor: 5, api.Band: 6, api.Shl: 7, api.Shr: 7,
		api.Concat: 8, api.Add: 9, api.Sub: 9, api.Mul: 10, api.Div: 10, api.Mod: 10,
	}
	for op := api.Add; op <= api.Ge; op++ {
		list = append(list, operator{"Op " + strconv.Itoa(int(op)), binds[op], func(x, y part) part { return bin(op, x, y) }})
	}
	return list
}

// Each pair of operators as each other's operand.
func TestOperands(t *testing.T) {
	all := operators()
	if len(all) != 19 {
		t.Fatal("not all operators")
	}
	signs := []api.Op{api.Neg, api.Not, api.Len, api.Bnot}
	for _, outer := range all {
		for _, inner := range all {
			first, second := inner.binds >= outer.binds, inner.binds > outer.binds
			if outer.binds == 8 {
				first, second = second, first
			}
			p, what := inner.two(a(), a()), inner.what+" in "+outer.what
			tell(t, what+", 1st", value(outer.two(p, a())), first)
			tell(t, what+", 2nd", value(outer.two(a(), p)), second)
			right(t, what+", 1st, in parentheses", value(outer.two(paren(p), a())))
			right(t, what+", 2nd, in parentheses", value(outer.two(a(), paren(p))))
			tell(t, what+", both", value(outer.two(p, p)), first && second)
		}
		for _, op := range signs {
			right(t, "NUn in "+outer.what, value(outer.two(un(op, a()), un(op, a()))))
			wrong(t, outer.what+" in NUn", value(un(op, outer.two(a(), a()))))
			right(t, outer.what+" in NUn, in parentheses", value(un(op, paren(outer.two(a(), a())))))
		}
	}
	for _, outer := range signs {
		for _, inner := range signs {
			right(t, "NUn in NUn", value(un(outer, un(inner, a()))))
			right(t, "NUn in NUn, in parentheses", value(un(outer, paren(un(inner, a())))))
		}
	}
	for _, p := range samples() {
		if k := letter(p.Kind); expression(p.Kind) && !strings.Contains("bao", k) {
			right(t, kindNames[p.Kind]+" in each operator", value(un(api.Len, p)))
			for _, outer := range all {
				right(t, kindNames[p.Kind]+" in "+outer.what, value(outer.two(p, p)))
			}
		}
	}
}

// wantSame asks for the answer of Same either way round, and in other orders of the lists.
func wantSame(t *testing.T, what string, x, y api.Syntax, want bool) {
	t.Helper()
	r := rand.New(rand.NewSource(7))
	for _, m := range orders(r, x) {
		for _, n := range orders(r, y) {
			wasM, wasN := shown(m), shown(n)
			if nodes.Same(m, n) != want || nodes.Same(n, m) != want {
				t.Errorf("%s: Same is not %v", what, want)
			}
			if shown(m) != wasM || shown(n) != wasN {
				t.Errorf("%s: Same changed its arguments", what)
			}
		}
	}
}

// P5.2.
func TestSame(t *testing.T) {
	base := func() api.Syntax {
		return text(local([]string{"v", "w"}, a(), number(1)), assign(2, a(), a(), a(), a()), of(api.NGoto).name("l"),
			do(of(api.NBreak)), of(api.NIf, a(), block(), block()), returns(bin(api.Add, a(), a()), str("s"), un(api.Neg, a()), function(0).names("p"), method(a(), a()), a()))
	}
	wantSame(t, "the same", base(), base(), true)
	wantSame(t, "empty texts", text(), text(), true)
	lines := base()
	for i := range lines.Nodes {
		lines.Nodes[i].Line = 1 + i*i
	}
	wantSame(t, "Lines", base(), lines, true)
	empty := base()
	for i := range empty.Nodes {
		if n := &empty.Nodes[i]; len(n.Kids) == 0 {
			n.Kids = []int{}
		} else if len(n.Names) == 0 {
			n.Names = make([]string, 0, 3)
		}
	}
	wantSame(t, "empty lists and none", base(), empty, true)
	changes := map[api.NodeKind]func(n *api.Node) bool{
		api.NBreak:  func(n *api.Node) bool { n.Kind, n.Name = api.NLabel, "l"; return true },
		api.NGoto:   func(n *api.Node) bool { n.Kind = api.NLabel; return true },
		api.NInt:    func(n *api.Node) bool { n.N = 2; return true },
		api.NAssign: func(n *api.Node) bool { n.N = 1; return true },
		api.NBin:    func(n *api.Node) bool { n.N = int64(api.Sub); return true },
		api.NUn:     func(n *api.Node) bool { n.N = int64(api.Len); return true },
		api.NFunc:   func(n *api.Node) bool { was := n.N; n.N = 1; return was == 0 },
		api.NName:   func(n *api.Node) bool { n.Name = "b"; return true },
		api.NStr:    func(n *api.Node) bool { n.Name = ""; return true },
		api.NMethod: func(n *api.Node) bool { n.Name = "M"; return true },
		api.NLocal:  func(n *api.Node) bool { n.Names[1] = "W"; return true },
	}
	changed := 0
	for i := range base().Nodes {
		s := base()
		if change := changes[s.Nodes[i].Kind]; change != nil && change(&s.Nodes[i]) {
			changed++
			right(t, "changed", s)
			wantSame(t, "a changed "+kindNames[base().Nodes[i].Kind], base(), s, false)
		}
		s = base()
		s.Nodes[i].Line = 0
		wantSame(t, "one that is not right", base(), s, false)
		if nodes.Same(s, s) {
			t.Error("Same of what is not right")
		}
	}
	if changed < 20 {
		t.Error("too few changes:", changed)
	}
}

// Two texts that are right and differ in one thing.
func TestNotSame(t *testing.T) {
	f, g := name("f"), name("g")
	for what, pair := range map[string][2]part{
		"a kind":             {returns(of(api.NTrue)), returns(of(api.NFalse))},
		"a kind, with kids":  {returns(of(api.NAnd, f, g)), returns(of(api.NOr, f, g))},
		"a statement's kind": {of(api.NGoto).name("l"), of(api.NLabel).name("l")},
		"a text, a name":     {returns(str("f")), returns(f)},
		"a number":           {returns(number(math.MinInt64)), returns(number(0))},
		"its upper bits":     {returns(number(1 << 32)), returns(number(0))},
		"where targets end":  {assign(1, f, g, f), assign(2, f, g, f)},
		"a Name's case":      {returns(f), returns(name("F"))},
		"a Name's length":    {returns(f), returns(name("ff"))},
		"the last one":       {local([]string{"v", "w"}), local([]string{"v", "v"})},
		"the first one":      {local([]string{"v", "w"}), local([]string{"w", "w"})},
		"their order":        {local([]string{"v", "w"}), local([]string{"w", "v"})},
		"how many Names":     {local([]string{"v", "w"}), local([]string{"v"})},
		"how many kids":      {returns(f, g), returns(f)},
		"how many kids, too": {returns(call(f, g), g), returns(call(f), g, g)},
		"a table's parts":    {returns(of(api.NTable, of(api.NItem, f))), returns(of(api.NTable))},
		"the kids' order":    {returns(f, g), returns(g, f)},
		"where kids hang":    {returns(call(f, call(f), g)), returns(call(f, call(f, g)))},
		"deeper":             {returns(call(call(f, g))), returns(call(call(f), g))},
		"a block's end":      {of(api.NIf, f, block(), f, block()), of(api.NIf, f, block(), paren(f), block())},
		"else":               {of(api.NIf, f, block(do())), of(api.NIf, f, block(), block())},
		"from the left":      {returns(bin(api.Add, bin(api.Add, f, g), f)), returns(bin(api.Add, f, paren(bin(api.Add, g, f))))},
	} {
		x, y := text(pair[0]), text(pair[1])
		right(t, what, x)
		right(t, what, y)
		wantSame(t, what, x, y, false)
	}
	wantSame(t, "one more statement", text(of(api.NBreak)), text(of(api.NBreak), of(api.NBreak)), false)
	wantSame(t, "no statement", text(of(api.NBreak)), text(), false)
	notRight := text(returns(), returns())
	wantSame(t, "not right, either", notRight, notRight, false)
	wantSame(t, "not right, one", notRight, text(returns()), false)
	wantSame(t, "great ones", text(times(4094, of(api.NBreak))...), text(times(4094, of(api.NBreak))...), true)
	wantSame(t, "great ones, the last one", text(times(4094, of(api.NBreak))...), text(append(times(4093, of(api.NBreak)), returns())...), false)
}

// grower makes right syntaxes by chance.
type grower struct{ *rand.Rand }

func (g grower) word() string {
	return []string{"v", "w", "x_1", "_", "self"}[g.Intn(5)]
}

func (g grower) words(least int) []string {
	var out []string
	for range least + g.Intn(3) {
		out = append(out, g.word())
	}
	return out
}

func (g grower) exprs(least, deep int) []part {
	var out []part
	for range least + g.Intn(3) {
		out = append(out, g.expr(deep))
	}
	return out
}

// operand answers an expression that binds as much as is asked for.
func (g grower) operand(least, deep int) part {
	p := g.expr(deep)
	if toldBinds(p.Node) < least {
		return paren(p)
	}
	return p
}

func (g grower) prefix(deep int) part {
	p := g.expr(deep)
	if !strings.Contains("vxcmp", letter(p.Kind)) {
		return paren(p)
	}
	return p
}

func (g grower) expr(deep int) part {
	if deep <= 0 || g.Intn(4) == 0 {
		return []part{of(api.NNil), of(api.NTrue), of(api.NFalse), number(g.Int63n(3) - 1), str(g.word()), of(api.NDots), name(g.word())}[g.Intn(7)]
	}
	deep--
	switch g.Intn(9) {
	case 0:
		return function(g.Int63n(2)).names(g.words(0)...).stats(g.block(deep))
	case 1:
		return of(api.NIndex, g.prefix(deep), g.expr(deep))
	case 2:
		return call(g.prefix(deep), g.exprs(0, deep)...)
	case 3:
		return method(g.prefix(deep), g.exprs(0, deep)...)
	case 4:
		o := operators()[g.Intn(19)]
		if o.binds == 8 {
			return o.two(g.operand(9, deep), g.operand(8, deep))
		}
		return o.two(g.operand(o.binds, deep), g.operand(o.binds+1, deep))
	case 5:
		return un(api.Neg+api.Op(g.Intn(4)), g.operand(11, deep))
	case 6:
		table := of(api.NTable)
		for range g.Intn(4) {
			table = table.plus([]part{of(api.NItem, g.expr(deep)), of(api.NNamed, g.expr(deep), g.expr(deep))}[g.Intn(2)])
		}
		return table
	}
	return paren(g.expr(deep))
}

// stats answers p, a function, with another block.
func (p part) stats(b part) part {
	p.parts = []part{b}
	return p
}

func (g grower) block(deep int) part {
	b := block()
	for range g.Intn(4) {
		b = b.plus(g.stat(deep - 1))
	}
	if g.Intn(3) == 0 {
		b = b.plus(returns(g.exprs(0, deep)...))
	}
	return b
}

func (g grower) stat(deep int) part {
	if deep <= 0 {
		return []part{of(api.NBreak), of(api.NGoto).name(g.word()), of(api.NLabel).name(g.word()), do(), local(g.words(1))}[g.Intn(5)]
	}
	switch g.Intn(10) {
	case 0:
		return local(g.words(1), g.exprs(0, deep)...)
	case 1:
		targets := []part{name(g.word()), of(api.NIndex, g.prefix(deep), g.expr(deep)), name(g.word())}[:1+g.Intn(3)]
		return assign(int64(len(targets)), targets...).plus(g.exprs(1, deep)...)
	case 2:
		return of(api.NCallStat, []part{call(g.prefix(deep)), method(g.prefix(deep), g.exprs(0, deep)...)}[g.Intn(2)])
	case 3:
		return of(api.NDo, g.block(deep))
	case 4:
		return of(api.NWhile, g.expr(deep), g.block(deep))
	case 5:
		return of(api.NRepeat, g.block(deep), g.expr(deep))
	case 6:
		p := of(api.NIf)
		for range 1 + g.Intn(3) {
			p = p.plus(g.expr(deep), g.block(deep))
		}
		return p.plus([]part{g.block(deep)}[g.Intn(2):]...)
	case 7:
		return of(api.NFor, g.expr(deep), g.expr(deep)).plus([]part{g.expr(deep), g.block(deep)}[g.Intn(2):]...).names(g.word())
	case 8:
		return of(api.NForIn, g.exprs(1, deep)...).plus(g.block(deep)).names(g.words(1)...)
	}
	return of(api.NLocalFunc, function(g.Int63n(2)).names(g.words(0)...).stats(g.block(deep))).names(g.word())
}

// spoil changes one thing of s.
func (g grower) spoil(s api.Syntax) api.Syntax {
	s = copied(s)
	n, other := &s.Nodes[g.Intn(len(s.Nodes))], &s.Nodes[g.Intn(len(s.Nodes))]
	switch g.Intn(13) {
	case 0:
		n.Kind = api.NodeKind(g.Intn(40))
	case 1:
		n.N = g.Int63n(24) - 1
	case 2:
		n.Name = []string{"", "v", "end", "9", "a b"}[g.Intn(5)]
	case 3:
		n.Names = g.words(0)
	case 4:
		n.Line = g.Intn(3) - 1
	case 5:
		s.Root = g.Intn(len(s.Nodes)+2) - 1
	case 6:
		n.Kids = append(n.Kids, g.Intn(len(s.Nodes)+2)-1)
	case 7:
		if len(n.Kids) > 0 {
			n.Kids = n.Kids[:len(n.Kids)-1]
		}
	case 8:
		n.Kids, other.Kids = other.Kids, n.Kids
	case 9:
		g.Shuffle(len(n.Kids), func(i, j int) { n.Kids[i], n.Kids[j] = n.Kids[j], n.Kids[i] })
	case 10:
		if len(n.Kids) > 0 && len(other.Kids) > 0 {
			i, j := g.Intn(len(n.Kids)), g.Intn(len(other.Kids))
			n.Kids[i], other.Kids[j] = other.Kids[j], n.Kids[i]
		}
	case 11:
		n.Kind, other.Kind = other.Kind, n.Kind
	case 12:
		n.N, other.N = other.N, n.N
	}
	return s
}

// Syntaxes by chance, and what comes of them by a few changes, against the second reading.
func TestByChance(t *testing.T) {
	g := grower{rand.New(rand.NewSource(11))}
	var wasRight, wasWrong, wasSame, wasOther int
	for range 3000 {
		s := lay(function(1).stats(g.block(4)))
		if len(s.Nodes) > 400 {
			continue
		}
		if !nodes.Right(s) {
			t.Fatal("not right:", shown(s))
		}
		for range 6 {
			o := moved(s, g.Perm(len(s.Nodes)))
			for range g.Intn(3) {
				o = g.spoil(o)
			}
			want := told(o)
			if nodes.Right(o) != want {
				t.Fatal("Right is not", want, shown(o))
			}
			same := want && toldSays(s, s.Root) == toldSays(o, o.Root)
			if nodes.Same(s, o) != same || nodes.Same(o, s) != same {
				t.Fatal("Same is not", same, shown(s), shown(o))
			}
			switch {
			case same:
				wasSame++
			case want:
				wasOther++
			default:
				wasWrong++
			}
			if want {
				wasRight++
			}
		}
	}
	if min(wasRight, wasWrong, wasSame, wasOther) < 200 {
		t.Error("too few of one sort:", wasRight, wasWrong, wasSame, wasOther)
	}
}

// Nodes thrown together: each call ends, and none panics.
func TestGarbage(t *testing.T) {
	r := rand.New(rand.NewSource(13))
	for range 100000 {
		s := api.Syntax{Nodes: make([]api.Node, r.Intn(6)), Root: r.Intn(7) - 1}
		for i := range s.Nodes {
			n := &s.Nodes[i]
			n.Kind, n.N, n.Line = api.NodeKind(r.Intn(40)), r.Int63n(4)-1, 1
			for range r.Intn(3) {
				n.Kids = append(n.Kids, r.Intn(len(s.Nodes)+2)-1)
			}
		}
		if len(s.Nodes) > 0 && r.Intn(2) == 0 {
			s.Nodes[0].Kind, s.Nodes[0].N, s.Root = api.NFunc, 1, 0
		}
		if want := told(s); nodes.Right(s) != want || nodes.Same(s, s) != want {
			t.Fatal("Right is not", want, shown(s))
		}
	}
}
