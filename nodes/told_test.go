package nodes_test

import (
	"math/rand"
	"regexp"
	"slices"
	"strconv"
	"strings"

	"twinstep/api"
)

// told_test.go: syntaxes put together, laid in any order, and the chapter's words once more: what told answers is what Right should.

// part is a node with its kids.
type part struct {
	api.Node
	parts []part
}

func of(k api.NodeKind, parts ...part) part {
	return part{Node: api.Node{Kind: k, Line: 1}, parts: parts}
}

func (p part) n(n int64) part             { p.N = n; return p }
func (p part) name(s string) part         { p.Name = s; return p }
func (p part) names(names ...string) part { p.Names = names; return p }

// plus answers p with more kids.
func (p part) plus(parts ...part) part {
	p.parts = slices.Concat(p.parts, parts)
	return p
}

func name(s string) part                   { return of(api.NName).name(s) }
func number(n int64) part                  { return of(api.NInt).n(n) }
func str(s string) part                    { return of(api.NStr).name(s) }
func paren(p part) part                    { return of(api.NParen, p) }
func bin(op api.Op, a, b part) part        { return of(api.NBin, a, b).n(int64(op)) }
func un(op api.Op, a part) part            { return of(api.NUn, a).n(int64(op)) }
func call(f part, args ...part) part       { return of(api.NCall, f).plus(args...) }
func method(o part, args ...part) part     { return of(api.NMethod, o).plus(args...).name("m") }
func block(stats ...part) part             { return of(api.NBlock, stats...) }
func do(stats ...part) part                { return of(api.NDo, block(stats...)) }
func function(n int64, stats ...part) part { return of(api.NFunc, block(stats...)).n(n) }
func returns(exprs ...part) part           { return of(api.NReturn, exprs...) }
func assign(n int64, parts ...part) part   { return of(api.NAssign, parts...).n(n) }
func local(names []string, e ...part) part { return of(api.NLocal, e...).names(names...) }
func text(stats ...part) api.Syntax        { return lay(function(1, stats...)) }
func value(e part) api.Syntax              { return text(returns(e)) }
func times[T any](count int, one T) []T    { return slices.Repeat([]T{one}, count) }
func a() part                              { return name("a") }
func statement(k api.NodeKind) bool        { return strings.Contains(statements, letter(k)) }
func expression(k api.NodeKind) bool       { return strings.Contains(expressions, letter(k)) }
func nest(count int, p part, f func(part) part) part {
	for range count {
		p = f(p)
	}
	return p
}

// lay answers p as a list, each node behind its kids.
func lay(p part) api.Syntax {
	var s api.Syntax
	var put func(p part) int
	put = func(p part) int {
		var kids []int
		for _, kid := range p.parts {
			kids = append(kids, put(kid))
		}
		n := p.Node
		n.Kids, n.Names = kids, slices.Clone(n.Names)
		s.Nodes = append(s.Nodes, n)
		return len(s.Nodes) - 1
	}
	s.Root = put(p)
	return s
}

// moved answers s with node i at place to[i], places told anew; what is no place stays as it is.
func moved(s api.Syntax, to []int) api.Syntax {
	tell := func(place int) int {
		if place < 0 || place >= len(to) {
			return place
		}
		return to[place]
	}
	out := api.Syntax{Nodes: make([]api.Node, len(s.Nodes)), Root: tell(s.Root)}
	for i, n := range copied(s).Nodes {
		for k := range n.Kids {
			n.Kids[k] = tell(n.Kids[k])
		}
		out.Nodes[to[i]] = n
	}
	return out
}

// orders answers s as it is, turned round, and in two orders by chance.
func orders(r *rand.Rand, s api.Syntax) []api.Syntax {
	var back []int
	for i := range s.Nodes {
		back = append(back, len(s.Nodes)-1-i)
	}
	return []api.Syntax{s, moved(s, back), moved(s, r.Perm(len(s.Nodes))), moved(s, r.Perm(len(s.Nodes)))}
}

func copied(s api.Syntax) api.Syntax {
	out := api.Syntax{Nodes: slices.Clone(s.Nodes), Root: s.Root}
	for i := range out.Nodes {
		out.Nodes[i].Kids = slices.Clone(out.Nodes[i].Kids)
		out.Nodes[i].Names = slices.Clone(out.Nodes[i].Names)
	}
	return out
}

// shown tells a syntax with all that it has.
func shown(s api.Syntax) string {
	var b strings.Builder
	b.WriteString(strconv.Itoa(s.Root))
	for _, n := range s.Nodes {
		b.WriteString("\n" + strconv.Itoa(int(n.Kind)) + " " + strconv.FormatInt(n.N, 10) + " " + strconv.Quote(n.Name))
		for _, s := range n.Names {
			b.WriteString(" " + strconv.Quote(s))
		}
		for _, k := range n.Kids {
			b.WriteString(" " + strconv.Itoa(k))
		}
		b.WriteString(" line " + strconv.Itoa(n.Line))
	}
	return b.String()
}

// Each kind has a letter; what kids a kind may have is an expression of their letters, with E for each expression, P for each prefix, S for each statement but an NReturn.

const (
	letters     = "BLACDWRIFNOTKGJ....ntfisduvxcmbaoyewzp" // of kinds 1 and on
	statements  = "LACDWRIFNOTKGJ"
	expressions = "ntfisduvxcmbaoyep"
	words       = "and break do else elseif end false for function goto if in local nil not or repeat return then true until while"
)

func letter(k api.NodeKind) string {
	if k < 1 || int(k) > len(letters) || letters[k-1] == '.' {
		return "?"
	}
	return letters[k-1 : k]
}

var toldKids = map[string]*regexp.Regexp{}

func init() {
	for kinds, kids := range map[string]string{
		"B": "S*T?", "LT": "E{0,200}", "C": "[cm]", "D": "B", "W": "EB", "R": "BE", "I": "(EB)+B?", "F": "EEE?B", "N": "E{1,200}B",
		"O": "u", "KGJntfisdv": "", "u": "B", "x": "PE", "cm": "PE{0,200}", "baoz": "EE", "ypw": "E", "e": "[wz]*", "A": "[vx]*E*",
	} {
		kids = strings.NewReplacer("E", "["+expressions+"]", "P", "[vxcmp]", "S", "[LACDWRIFNOKGJ]").Replace(kids)
		for _, k := range strings.Split(kinds, "") {
			toldKids[k] = regexp.MustCompile("^(" + kids + ")$")
		}
	}
}

var (
	toldName = regexp.MustCompile(`^[A-Za-z_][0-9A-Za-z_]{0,59}$`)
	toldPair = regexp.MustCompile(`^[vx]+ [` + expressions + `]+$`)
)

// toldOwn tells of all but the kids whether n may have it.
func toldOwn(n api.Node) bool {
	isName := func(s string) bool { return toldName.MatchString(s) && !slices.Contains(strings.Fields(words), s) }
	k := letter(n.Kind)
	in := func(kinds string) bool { return strings.Contains(kinds, k) }
	if slices.ContainsFunc(n.Names, func(s string) bool { return !isName(s) }) || len(n.Names) > 200 {
		return false
	}
	switch {
	case k == "?", in("LN") && len(n.Names) == 0, in("FO") && len(n.Names) != 1, !in("LNFOu") && len(n.Names) != 0:
		return false
	case in("GJvm") && !isName(n.Name), in("s") && len(n.Name) > 65535, !in("GJvms") && n.Name != "":
		return false
	case in("u") && n.N != 0 && n.N != 1, in("b") && (n.N < 1 || n.N > 17), in("y") && (n.N < 18 || n.N > 21):
		return false
	}
	return in("Aiuby") || n.N == 0
}

// toldBinds answers how much n binds.
func toldBinds(n api.Node) int {
	rows := [][]int64{1: {}, 2: {}, 3: {12, 13, 14, 15, 16, 17}, 4: {7}, 5: {8}, 6: {6}, 7: {9, 10}, 8: {11}, 9: {1, 2}, 10: {3, 4, 5}}
	switch letter(n.Kind) {
	case "o":
		return 1
	case "a":
		return 2
	case "y":
		return 11
	case "b":
		return slices.IndexFunc(rows, func(row []int64) bool { return slices.Contains(row, n.N) })
	}
	return 12
}

// toldNode tells whether n has what it may have, and its operands fit.
func toldNode(s api.Syntax, n api.Node) bool {
	have, binds := "", []int(nil)
	for _, k := range n.Kids {
		have += letter(s.Nodes[k].Kind)
		binds = append(binds, toldBinds(s.Nodes[k]))
	}
	if n.Line < 1 || !toldOwn(n) || !toldKids[letter(n.Kind)].MatchString(have) {
		return false
	}
	own := toldBinds(n)
	switch letter(n.Kind) {
	case "A":
		if n.N < 1 || n.N > 200 || n.N >= int64(len(have)) || int64(len(have))-n.N > 200 {
			return false
		}
		return toldPair.MatchString(have[:n.N] + " " + have[n.N:])
	case "y":
		return binds[0] >= 11
	case "b", "a", "o":
		if n.N == int64(api.Concat) {
			return binds[0] > own && binds[1] >= own
		}
		return binds[0] >= own && binds[1] > own
	}
	return true
}

// toldLevels answers the greatest level of what stands in the node at place, itself too; l is its own one, of a statement its block's.
func toldLevels(s api.Syntax, place, l int) int {
	n, most := s.Nodes[place], l
	for i, k := range n.Kids {
		level := l + 1
		switch letter(n.Kind) {
		case "B", "e":
			level = l
		case "x", "c", "m", "b", "a", "o":
			if i == 0 {
				level = l
			}
		}
		most = max(most, toldLevels(s, k, level))
	}
	return most
}

// told tells whether s is right.
func told(s api.Syntax) bool {
	if len(s.Nodes) == 0 || len(s.Nodes) > 4096 || s.Root < 0 || s.Root >= len(s.Nodes) {
		return false
	}
	if root := s.Nodes[s.Root]; letter(root.Kind) != "u" || root.N != 1 || len(root.Names) != 0 {
		return false
	}
	over := make(map[int]int)
	for i, n := range s.Nodes {
		for _, k := range n.Kids {
			if _, twice := over[k]; twice || k < 0 || k >= len(s.Nodes) {
				return false
			}
			over[k] = i
		}
	}
	for i, n := range s.Nodes {
		steps, at := 0, i
		for at != s.Root && steps <= len(s.Nodes) {
			above, is := over[at]
			if !is {
				return false
			}
			at, steps = above, steps+1
		}
		if at != s.Root || !toldNode(s, n) {
			return false
		}
	}
	_, under := over[s.Root]
	return !under && toldLevels(s, s.Root, 0) <= 100
}

// toldSays tells all that two syntaxes must have alike, without lines and places.
func toldSays(s api.Syntax, place int) string {
	n := s.Nodes[place]
	out := letter(n.Kind) + strconv.FormatInt(n.N, 10) + strconv.Quote(n.Name) + "<"
	for _, s := range n.Names {
		out += strconv.Quote(s)
	}
	for _, k := range n.Kids {
		out += "(" + toldSays(s, k) + ")"
	}
	return out + ">"
}
