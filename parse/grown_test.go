package parse_test

import (
	"cmp"
	"math/rand"
	"slices"
	"strconv"
	"strings"
	"testing"

	"twinstep/api"
	"twinstep/nodes"
	"twinstep/parse"
)

// grown_test.go: texts grown by chance, with what Parse must say of them: the chapter's words on nodes, order, lines and limits, told of the tokens as they are put down.

// grownNode is a node from its first token to its last one; that of an empty block is ahead of its first one. Its Kids are numbers of grown nodes.
type grownNode struct {
	api.Node
	first, last int
}

type grower struct {
	r      *rand.Rand
	tokens []string
	nodes  []grownNode
	long   map[int]bool // the tokens at which something is too deep, too many or too long
	target int          // the level that the deep part goes to
	fuel   int
	odd    bool // whether there are long names, and lists
}

func (g *grower) chance(of int) bool { return g.r.Intn(of) == 0 }
func (g *grower) here() int          { return len(g.tokens) }

func (g *grower) put(tokens ...string) {
	g.tokens = append(g.tokens, tokens...)
}

// level notes that something of a level begins at the next token.
func (g *grower) level(l int) {
	if l > 100 {
		g.long[g.here()] = true
	}
}

// open begins a node; what it answers ends it.
func (g *grower) open(k api.NodeKind) func(kids ...int) int {
	first := g.here()
	return func(kids ...int) int {
		g.nodes = append(g.nodes, grownNode{Node: api.Node{Kind: k, Kids: kids}, first: first, last: g.here() - 1})
		return len(g.nodes) - 1
	}
}

// around ends a node that began with its first kid.
func (g *grower) around(k api.NodeKind, first int, kids ...int) int {
	g.nodes = append(g.nodes, grownNode{Node: api.Node{Kind: k, Kids: append([]int{first}, kids...)}, first: g.nodes[first].first, last: g.here() - 1})
	return len(g.nodes) - 1
}

func (g *grower) anyName() string {
	if g.odd && g.chance(40) {
		return strings.Repeat("n", 59+g.r.Intn(3))
	}
	return string(rune('a' + g.r.Intn(20)))
}

// name puts a name that is no key.
func (g *grower) name() string {
	s := g.anyName()
	if len(s) > 60 {
		g.long[g.here()] = true
	}
	g.put(s)
	return s
}

// key puts a name that is a key.
func (g *grower) key(level int) int {
	g.level(level)
	s, end := g.anyName(), g.open(api.NStr)
	g.put(s)
	at := end()
	g.nodes[at].Name = s
	return at
}

// count answers how many a list has.
func (g *grower) count(least int) int {
	if g.odd && g.chance(12) {
		return 199 + g.r.Intn(4)
	}
	return least + g.r.Intn(3)
}

// listed notes that one more begins in a list, which has so many.
func (g *grower) listed(have int) {
	if have >= 200 {
		g.long[g.here()] = true
	}
}

func (g *grower) names(have ...string) []string {
	for count := len(have) + g.count(1); len(have) < count; {
		g.listed(len(have))
		have = append(have, g.name())
		if len(have) < count {
			g.put(",")
		}
	}
	return have
}

func (g *grower) exprs(level int, deep bool) []int {
	var out []int
	count := g.count(1)
	which := g.r.Intn(count)
	for i := range count {
		if i > 0 {
			g.put(",")
		}
		g.listed(i)
		out = append(out, g.expr(level, 1, deep && i == which))
	}
	return out
}

// binds answers how much row i of binaries binds.
func binds(row int) int { return row + 1 }

// expr puts an expression that binds at least so much.
func (g *grower) expr(level, least int, deep bool) int {
	g.level(level)
	g.fuel--
	deep = deep && level < g.target
	if !deep && (g.fuel < 0 || g.chance(3)) {
		return g.literal(level)
	}
	switch g.r.Intn(8) {
	case 0, 1, 2:
		if row := g.r.Intn(len(binaries)); binds(row) >= least {
			return g.binary(level, row, deep)
		}
	case 3:
		end, mark := g.open(api.NUn), g.r.Intn(4)
		g.put(unaries[mark])
		at := end(g.expr(level+1, 11, deep))
		g.nodes[at].N = int64(18 + mark)
		return at
	case 4:
		return g.table(level, deep)
	case 5:
		end := g.open(api.NFunc)
		g.put("function")
		return g.body(level, deep, end)
	}
	return g.prefix(level, deep, "")
}

func (g *grower) literal(level int) int {
	marks := []string{"nil", "true", "false", "7", "'s'", "..."}
	which := g.r.Intn(len(marks) + 2)
	if which >= len(marks) {
		return g.prefix(level, false, "name")
	}
	end := g.open(api.NNil + api.NodeKind(which))
	g.put(marks[which])
	at := end()
	switch which {
	case 3:
		g.nodes[at].N = 7
	case 4:
		g.nodes[at].Name = "s"
	}
	return at
}

func (g *grower) binary(level, row int, deep bool) int {
	left, right, mark := binds(row), binds(row)+1, binaries[row][g.r.Intn(len(binaries[row]))]
	if mark == ".." {
		left, right = right, left
	}
	first := g.expr(level, left, false)
	g.put(mark)
	second := g.expr(level+1, right, deep)
	switch mark {
	case "or":
		return g.around(api.NOr, first, second)
	case "and":
		return g.around(api.NAnd, first, second)
	}
	at := g.around(api.NBin, first, second)
	g.nodes[at].N = int64(slices.Index(opMarks, mark))
	return at
}

func (g *grower) table(level int, deep bool) int {
	end := g.open(api.NTable)
	g.put("{")
	var kids []int
	count := g.r.Intn(4)
	if deep {
		count++
	}
	for i := range count {
		kids = append(kids, g.field(level+1, deep && i == 0))
		if i < count-1 || g.chance(2) {
			g.put([]string{",", ";"}[g.r.Intn(2)])
		}
	}
	g.put("}")
	return end(kids...)
}

// field puts what a table has; what it is made of is of this level.
func (g *grower) field(level int, deep bool) int {
	var kids []int
	end := g.open(api.NNamed)
	switch g.r.Intn(3) {
	case 0:
		kids = append(kids, g.key(level))
	case 1:
		g.put("[")
		keyDeep := deep && g.chance(2)
		kids = append(kids, g.expr(level, 1, keyDeep))
		g.put("]")
		deep = deep && !keyDeep
	default:
		at := end(g.expr(level, 1, deep))
		g.nodes[at].Kind = api.NItem
		return at
	}
	g.put("=")
	return end(append(kids, g.expr(level, 1, deep))...)
}

// body puts what is behind function, and ends the NFunc.
func (g *grower) body(level int, deep bool, end func(...int) int, names ...string) int {
	g.put("(")
	var n int64
	if g.chance(2) {
		names = g.names(names...)
		if g.chance(3) {
			g.put(",", "...")
			n = 1
		}
	} else if g.chance(3) {
		g.put("...")
		n = 1
	}
	g.put(")")
	block := g.block(level+1, deep)
	g.put("end")
	at := end(block)
	g.nodes[at].Names, g.nodes[at].N = names, n
	return at
}

// prefix puts a prefix: a name alone, a target, a call, or any.
func (g *grower) prefix(level int, deep bool, want string) int {
	var at int
	if want != "name" && (deep || g.chance(4)) {
		end := g.open(api.NParen)
		g.put("(")
		inner := deep && g.chance(2)
		kid := g.expr(level+1, 1, inner)
		g.put(")")
		at, deep = end(kid), deep && !inner
	} else {
		end := g.open(api.NName)
		s := g.name()
		at = end()
		g.nodes[at].Name = s
	}
	for want != "name" && (deep || g.chance(2) || !g.is(at, want)) {
		at = g.suffix(at, level, deep)
		deep = false
	}
	return at
}

func (g *grower) is(at int, want string) bool {
	switch g.nodes[at].Kind {
	case api.NName, api.NIndex:
		return want != "call"
	case api.NCall, api.NMethod:
		return want != "target"
	}
	return want == ""
}

func (g *grower) suffix(at, level int, deep bool) int {
	switch which := g.r.Intn(4); {
	case which == 0 && !deep:
		g.put(".")
		return g.around(api.NIndex, at, g.key(level+1))
	case which == 1:
		g.put("[")
		key := g.expr(level+1, 1, deep)
		g.put("]")
		return g.around(api.NIndex, at, key)
	case which == 2:
		g.put(":")
		s := g.name()
		at = g.around(api.NMethod, at, g.args(level+1, deep)...)
		g.nodes[at].Name = s
		return at
	}
	return g.around(api.NCall, at, g.args(level+1, deep)...)
}

func (g *grower) args(level int, deep bool) []int {
	switch which := g.r.Intn(4); {
	case which == 0:
		g.level(level)
		return []int{g.table(level, deep)}
	case which == 1 && !deep:
		g.level(level)
		end := g.open(api.NStr)
		g.put("[[t]]")
		at := end()
		g.nodes[at].Name = "t"
		return []int{at}
	}
	g.put("(")
	var kids []int
	if deep || g.chance(2) {
		kids = g.exprs(level, deep)
	}
	g.put(")")
	return kids
}

// block puts a block of a level, up to what ends it.
func (g *grower) block(level int, deep bool) int {
	g.level(level)
	end := g.open(api.NBlock)
	var kids []int
	count := g.r.Intn(3)
	if deep {
		count++
	}
	for i := range count {
		for g.chance(5) {
			g.put(";")
		}
		kids = append(kids, g.stat(level+1, deep && i == 0))
	}
	if g.chance(4) {
		kids = append(kids, g.lastStat(level+1))
	}
	return end(kids...)
}

// lastStat puts a return.
func (g *grower) lastStat(level int) int {
	end := g.open(api.NReturn)
	g.put("return")
	var kids []int
	if g.chance(2) {
		kids = g.exprs(level, false)
	}
	at := end(kids...)
	if g.chance(2) {
		g.put(";")
	}
	return at
}

// stat puts a statement; what it is made of is of this level.
func (g *grower) stat(level int, deep bool) int {
	g.fuel--
	which := g.r.Intn(14)
	if g.fuel < 0 && !deep {
		which = g.r.Intn(3)
	}
	if deep && which < 4 {
		which += 4
	}
	switch which {
	case 0:
		end := g.open(api.NBreak)
		g.put("break")
		return end()
	case 1, 2:
		return g.jump(which)
	case 3, 4:
		return g.local(level, deep)
	case 5, 6:
		return g.assign(level, deep)
	case 7, 8:
		return g.loop(level, deep)
	case 9:
		return g.branch(level, deep)
	case 10:
		return g.counting(level, deep)
	case 11, 12:
		return g.function(level, deep, which == 11)
	}
	g.apart()
	g.level(level)
	end := g.open(api.NCallStat)
	return end(g.prefix(level, deep, "call"))
}

// apart keeps what may begin with ( from the statement ahead.
func (g *grower) apart() { g.put(";") }

func (g *grower) jump(which int) int {
	end := g.open(api.NGoto)
	if which == 1 {
		g.put("goto")
		s := g.name()
		at := end()
		g.nodes[at].Name = s
		return at
	}
	g.put("::")
	s := g.name()
	g.put("::")
	at := end()
	g.nodes[at].Kind, g.nodes[at].Name = api.NLabel, s
	return at
}

func (g *grower) local(level int, deep bool) int {
	end := g.open(api.NLocal)
	g.put("local")
	names := g.names()
	var kids []int
	if deep || g.chance(2) {
		g.put("=")
		kids = g.exprs(level, deep)
	}
	at := end(kids...)
	g.nodes[at].Names = names
	return at
}

func (g *grower) assign(level int, deep bool) int {
	g.apart()
	g.level(level)
	end := g.open(api.NAssign)
	kids := []int{g.prefix(level, false, "target")}
	for count := g.count(1); len(kids) < count; {
		g.put(",")
		g.listed(len(kids))
		kids = append(kids, g.prefix(level, false, "target"))
	}
	targets := len(kids)
	g.put("=")
	at := end(append(kids, g.exprs(level, deep)...)...)
	g.nodes[at].N = int64(targets)
	return at
}

func (g *grower) loop(level int, deep bool) int {
	end := g.open(api.NWhile)
	switch g.r.Intn(3) {
	case 0:
		g.put("while")
		condition := g.expr(level, 1, false)
		g.put("do")
		block := g.block(level, deep)
		g.put("end")
		return end(condition, block)
	case 1:
		g.put("repeat")
		block := g.block(level, deep)
		g.put("until")
		at := end(block, g.expr(level, 1, false))
		g.nodes[at].Kind = api.NRepeat
		return at
	}
	g.put("do")
	block := g.block(level, deep)
	g.put("end")
	at := end(block)
	g.nodes[at].Kind = api.NDo
	return at
}

func (g *grower) branch(level int, deep bool) int {
	end := g.open(api.NIf)
	var kids []int
	for i := range 1 + g.r.Intn(3) {
		g.put([]string{"if", "elseif", "elseif"}[i])
		kids = append(kids, g.expr(level, 1, false))
		g.put("then")
		kids = append(kids, g.block(level, deep && i == 0))
	}
	if g.chance(2) {
		g.put("else")
		kids = append(kids, g.block(level, false))
	}
	g.put("end")
	return end(kids...)
}

// counting puts one of both loops that count.
func (g *grower) counting(level int, deep bool) int {
	end := g.open(api.NFor)
	g.put("for")
	var names []string
	var kids []int
	k := api.NFor
	if g.chance(2) {
		names = []string{g.name()}
		g.put("=")
		for i := range 2 + g.r.Intn(2) {
			if i > 0 {
				g.put(",")
			}
			kids = append(kids, g.expr(level, 1, deep && i == 1))
		}
	} else {
		k, names = api.NForIn, g.names()
		g.put("in")
		kids = g.exprs(level, deep)
	}
	g.put("do")
	kids = append(kids, g.block(level, false))
	g.put("end")
	at := end(kids...)
	g.nodes[at].Kind, g.nodes[at].Names = k, names
	return at
}

func (g *grower) function(level int, deep, local bool) int {
	if local {
		end := g.open(api.NLocalFunc)
		g.put("local")
		g.level(level)
		value := g.open(api.NFunc)
		g.put("function")
		s := g.name()
		at := end(g.body(level, deep, value))
		g.nodes[at].Names = []string{s}
		return at
	}
	g.level(level)
	end, value := g.open(api.NAssign), g.open(api.NFunc)
	g.put("function")
	target := g.prefix(level, false, "name")
	for g.chance(2) {
		g.put(".")
		target = g.around(api.NIndex, target, g.key(level+1))
	}
	var names []string
	if g.chance(2) {
		g.put(":")
		target = g.around(api.NIndex, target, g.key(level+1))
		names = []string{"self"}
	}
	at := end(target, g.body(level, deep, value, names...))
	g.nodes[at].N = 1
	return at
}

// text grows a whole text; breaks are as many statements ahead of all others.
func (g *grower) text(deep bool, breaks int) {
	g.long = map[int]bool{}
	end := g.open(api.NBlock)
	var kids []int
	for range breaks {
		each := g.open(api.NBreak)
		g.put("break")
		kids = append(kids, each())
	}
	for i := range 1 + g.r.Intn(4) {
		kids = append(kids, g.stat(2, deep && i == 0))
	}
	if g.chance(3) {
		kids = append(kids, g.lastStat(2))
	}
	at := end(kids...)
	g.put("")
	g.nodes = append(g.nodes, grownNode{Node: api.Node{Kind: api.NFunc, N: 1, Kids: []int{at}}, last: g.here() - 1})
}

// lay answers the tokens with blanks and notes between, and each one's line.
func (g *grower) lay() (string, []int) {
	var b strings.Builder
	var lines []int
	line := 1
	blanks := []string{" ", " ", " ", "\t", "\n", "\r\n", " --a note\n", "\n\n", " --[[\n]] "}
	for _, s := range g.tokens {
		for more := true; more; more = g.chance(4) {
			blank := blanks[g.r.Intn(len(blanks))]
			line += strings.Count(blank, "\n")
			b.WriteString(blank)
		}
		lines = append(lines, line)
		b.WriteString(s)
	}
	return b.String(), lines
}

// want answers what Parse must say, if the tokens are of these lines.
func (g *grower) want(lines []int) (api.Syntax, api.Fault) {
	ended := make([]int, len(g.tokens)+1)
	for _, n := range g.nodes {
		ended[n.last+1]++
	}
	for i := range g.tokens {
		if i > 0 {
			ended[i] += ended[i-1]
		}
		if ended[i] > 4096 || g.long[i] {
			return api.Syntax{}, api.Fault{Err: api.ErrLong, Line: lines[i]}
		}
	}
	if len(g.nodes) > 4096 {
		return api.Syntax{}, api.Fault{Err: api.ErrLong, Line: lines[len(lines)-1]}
	}
	order := make([]int, len(g.nodes))
	for i := range order {
		order[i] = i
	}
	// Of two that end with one token the inner one is the one that begins later, or that a node which begins with it has as its kid.
	slices.SortStableFunc(order, func(a, b int) int {
		x, y := g.nodes[a], g.nodes[b]
		return cmp.Or(cmp.Compare(x.last, y.last), cmp.Compare(y.first, x.first))
	})
	places := make([]int, len(order))
	for place, i := range order {
		places[i] = place
	}
	var out api.Syntax
	for _, i := range order {
		n := g.nodes[i].Node
		n.Line = lines[g.nodes[i].first]
		n.Kids = nil
		for _, k := range g.nodes[i].Kids {
			n.Kids = append(n.Kids, places[k])
		}
		out.Nodes = append(out.Nodes, n)
	}
	out.Nodes[len(out.Nodes)-1].Line = 1
	out.Root = len(out.Nodes) - 1
	return out, api.Fault{}
}

// shown tells a text shortly.
func shown(text string) string {
	if len(text) > 300 {
		return strconv.Quote(text[:150]) + " .. " + strconv.Quote(text[len(text)-150:])
	}
	return strconv.Quote(text)
}

// wantGrown asks of a grown text what the grower tells of it.
func wantGrown(t *testing.T, g *grower) api.Fault {
	t.Helper()
	text, lines := g.lay()
	if len(text) > api.MaxText {
		return api.Fault{Err: api.ErrLong}
	}
	want, wantFault := g.want(lines)
	got, fault := parse.Parse(text)
	if fault != wantFault || sayAll(got) != sayAll(want) {
		t.Fatalf("Parse(%s):\n%s %v, want\n%s %v", shown(text), sayAll(got), fault, sayAll(want), wantFault)
	}
	if (fault == api.Fault{}) != nodes.Right(got) {
		t.Fatalf("Parse(%s): right: %v", shown(text), nodes.Right(got))
	}
	return fault
}

// P6.1, P6.2: texts by chance: small ones, large ones, deep ones, those with long lists and names.
func TestGrown(t *testing.T) {
	for what, c := range map[string]struct {
		rounds, fuel int
		odd          bool
		from, to     int
	}{
		"small": {rounds: 8000, fuel: 30},
		"large": {rounds: 300, fuel: 600},
		"odd":   {rounds: 2000, fuel: 30, odd: true},
		"deep":  {rounds: 1500, fuel: 10, from: 90, to: 104},
	} {
		t.Run(what, func(t *testing.T) {
			faults := 0
			for seed := range c.rounds {
				g := &grower{r: rand.New(rand.NewSource(int64(seed))), fuel: c.fuel, odd: c.odd}
				if c.to > 0 {
					g.target = c.from + g.r.Intn(c.to-c.from)
				}
				g.text(c.to > 0, 0)
				if wantGrown(t, g) != (api.Fault{}) {
					faults++
				}
			}
			if what != "small" && (faults < c.rounds/20 || faults > c.rounds/2) {
				t.Error(faults, "faults of", c.rounds)
			}
		})
	}
}

// P6.1, P6.2: texts by chance of about as many nodes as there may be.
func TestGrownNodes(t *testing.T) {
	for seed := range 60 {
		grow := func(breaks int) *grower {
			g := &grower{r: rand.New(rand.NewSource(int64(seed))), fuel: 40}
			g.text(false, breaks)
			return g
		}
		size := len(grow(0).nodes)
		for breaks := max(4096-size-1, 0); breaks <= 4096-size+4; breaks++ {
			wantGrown(t, grow(breaks))
		}
	}
}
