package parse_test

import (
	"math/rand"
	"strconv"
	"strings"
	"testing"

	"twinstep/api"
	"twinstep/nodes"
	"twinstep/parse"
)

// syntax_test.go: which token may stand where, held against the rules of told_test.go.

// samples has each rule of the language, with and without each of its parts that may be left out.
var samples = []string{
	"", ";", "; ; break ;", "while x do end", "while x do break end", "do end", "do ; break end", "repeat until x", "repeat break until x ;",
	"if x then end", "if x then break else end", "if x then elseif y then end", "if x then elseif y then break elseif z then else break end",
	"for i = 1 , 2 do end", "for i = 1 , 2 , 3 do break end", "for i in x do end", "for i , j , k in x , y do break end",
	"function f ( ) end", "function a . b . c ( x ) end", "function a : b ( ) end", "function a . b . c : d ( x , y , ... ) return end", "function f ( ... ) return ... end",
	"local function f ( ) end", "local function f ( x , ... ) break end", "local x", "local x , y , z", "local x = 1", "local x , y = 1 , 2 , 3",
	":: l ::", "break", "goto l", "x = 1", "x , y , z = 1 , 2", "x . y = 1", "x [ 1 ] . z , y . z [ 2 ] = 3", "f ( ) . x = 1", "( f ) [ 1 ] = 2", "x , ( y ) . z = 1", "x , f ( ) . z = 1",
	"f ( )", "f ( 1 )", "f ( 1 , x , ... )", "f 's'", "f { }", "f { } 's' ( )", "f : m ( )", "f : m 's'", "f : m { 1 }", "a . b [ c ] : d ( e ) . f ( g ) ( h )", "( f ) ( )", "( f . g ) : h ( )",
	"return", "return ;", "return 1", "return 1 , 2 ;", "do return end", "do return x ; end", "if x then return 1 else return ; end", "repeat return until x", "break return f ( )",
	"x = nil", "x = true , false , ...", "x = function ( ) end", "x = function ( a , b ) return a end", "x = function ( a , ... ) end", "x = ( ( 1 ) )",
	"x = { }", "x = { 1 }", "x = { 1 , }", "x = { 1 ; }", "x = { 1 , 2 ; 3 }", "x = { [ 1 ] = 2 , y = 3 , z }", "x = { y , z = 1 ; [ 's' ] = 2 ; }", "x = { { } , { { } } }", "x = { y . z , y ( ) , y == z }",
	"x = - 1", "x = not # ~ - y", "x = 1 + 2", "x = a or b and c == d | e ~ f & g << h .. i + j * k", "x = - a . b + # c ( ) * - d", "x = a .. b .. c", "x = not a == not b",
	"x = 1 y = 2", "f ( ) g ( )", "local x y = 1", "x = y ( z ) . w", "x = f ; ( g ) ( )", "break :: a :: goto a", "repeat until f ( ) x = 1", "local x return",
}

// wantTold asks for the fault that the rules tell; what has none must be right.
func wantTold(t *testing.T, text string, want api.Fault) {
	t.Helper()
	s, fault := parse.Parse(text)
	if fault != want {
		t.Fatalf("Parse(%s): %v, want %v", shown(text), fault, want)
	}
	if fault != (api.Fault{}) && (len(s.Nodes) != 0 || s.Root != 0) {
		t.Fatalf("Parse(%s): nodes beside a fault", shown(text))
	}
	if fault == (api.Fault{}) && !nodes.Right(s) {
		t.Fatalf("Parse(%s): not right", shown(text))
	}
}

// P6.1: the samples, and each of them cut short, with each token in the place of each, and ahead of each.
func TestSamples(t *testing.T) {
	for _, sample := range samples {
		wantTold(t, sample, api.Fault{})
		tokens := strings.Fields(sample)
		r := newReader()
		for k := 0; k <= len(tokens); k++ {
			ahead := strings.Join(tokens[:k], "\n") + "\n"
			wantTold(t, ahead, toldSyntax(ahead))
			for _, token := range allTokens() {
				behind := strings.Join(tokens[min(k+1, len(tokens)):], "\n")
				inserted := strings.Join(tokens[k:], "\n")
				if r.next(mark(token)) {
					r.back()
					wantTold(t, ahead+token+"\n"+behind, toldSyntax(ahead+token+"\n"+behind))
					wantTold(t, ahead+token+"\n"+inserted, toldSyntax(ahead+token+"\n"+inserted))
					continue
				}
				want := api.Fault{Err: api.ErrSyntax, Line: len(strings.Split(ahead, "\n"))}
				wantTold(t, ahead+token+"\n"+behind, want)
				wantTold(t, ahead+token+"\n"+inserted, want)
			}
			if k < len(tokens) && !r.next(ofSample(tokens[k])) {
				t.Fatal("no sample:", sample)
			}
		}
	}
}

// P6.1: all rows of up to four tokens, and of three behind some beginnings: where the rules end, there Parse tells a fault.
func TestShort(t *testing.T) {
	shortRows(t, "", 4)
	for _, ahead := range []string{"x =", "x , y", "x = {", "x = { y", "x = { [ 1 ]", "f (", "f : m", "function f", "function f (", "local function f ( x", "local x ,", "local x =", "for i", "for i = 1 ,", "for i = 1 , 2", "for i , j", "if x", "if x then", "if x then else", "while x", "repeat", "return", "return 1", "return ;", "goto", "::", "x = y +", "x = not", "( x", "( x )", "f ( )", "do return end"} {
		shortRows(t, ahead, 3)
	}
}

// shortRows goes through all rows of that many tokens behind some, each in a line of its own.
func shortRows(t *testing.T, begin string, most int) {
	t.Helper()
	r := newReader()
	all := allTokens()
	var grow func(ahead string, line, left int)
	grow = func(ahead string, line, left int) {
		fault := api.Fault{Err: api.ErrSyntax, Line: line}
		if r.next("END") {
			r.back()
			fault = api.Fault{}
		}
		wantTold(t, ahead, fault)
		for _, token := range all {
			switch {
			case left == 0:
			case !r.next(mark(token)):
				wantTold(t, ahead+token, api.Fault{Err: api.ErrSyntax, Line: line})
			default:
				grow(ahead+token+"\n", line+1, left-1)
				r.back()
			}
		}
	}
	tokens := strings.Fields(begin)
	for _, token := range tokens {
		if !r.next(ofSample(token)) {
			t.Fatal("no beginning:", begin)
		}
	}
	grow(strings.Join(append(tokens, ""), "\n"), len(tokens)+1, most)
}

// ofSample answers how the rules call a token of a sample.
func ofSample(token string) string {
	switch {
	case len(token) == 1 && 'a' <= token[0] && token[0] <= 'z':
		return "NAME"
	case '1' <= token[0] && token[0] <= '9':
		return "INT"
	}
	return mark(token)
}

// P6.1: texts by chance of which some tokens are taken away, put in or changed.
func TestSpoilt(t *testing.T) {
	all := allTokens()
	for seed := range 2500 {
		g := &grower{r: rand.New(rand.NewSource(int64(seed))), fuel: 12}
		g.text(false, 0)
		for range 1 + g.r.Intn(2) {
			at := g.r.Intn(len(g.tokens))
			token := all[g.r.Intn(len(all))]
			switch g.r.Intn(4) {
			case 0:
				g.tokens[at] = token
			case 1:
				g.tokens = append(g.tokens[:at], g.tokens[at+1:]...)
			case 2:
				g.tokens = append(g.tokens[:at], append([]string{token}, g.tokens[at:]...)...)
			default:
				other := g.r.Intn(len(g.tokens))
				g.tokens[at], g.tokens[other] = g.tokens[other], g.tokens[at]
			}
			if len(g.tokens) == 0 {
				g.tokens = []string{token}
			}
		}
		text, _ := g.lay()
		if len(g.tokens) < 150 {
			wantTold(t, text, toldSyntax(text))
		}
	}
}

// P6.1: what is no token is told first, with its line, whatever is wrong ahead of it.
func TestTokenFaults(t *testing.T) {
	for _, c := range []struct {
		text string
		want api.Fault
	}{
		{"a.1", api.Fault{Err: api.ErrNoFloat, Line: 1}},
		{"x = = 1\n\ny = 1.5", api.Fault{Err: api.ErrNoFloat, Line: 3}},
		{"end\n@", api.Fault{Err: api.ErrToken, Line: 2}},
		{"x\n=\n'", api.Fault{Err: api.ErrToken, Line: 3}},
		{"x = 1 / 2", api.Fault{Err: api.ErrNoFloat, Line: 1}},
		{"x = 2 ^ 2\n!", api.Fault{Err: api.ErrNoFloat, Line: 1}},
		{"--[[", api.Fault{Err: api.ErrToken, Line: 1}},
		{strings.Repeat("break ", 5000) + "\n?", api.Fault{Err: api.ErrToken, Line: 2}},
		{strings.Repeat("do ", 200) + "\n9223372036854775808", api.Fault{Err: api.ErrNoFloat, Line: 2}},
		{strings.Repeat("n", 61) + " = 1 end\n\"\\q\"", api.Fault{Err: api.ErrToken, Line: 2}},
		{"\x00", api.Fault{Err: api.ErrToken, Line: 1}},
		{"x = \xff", api.Fault{Err: api.ErrToken, Line: 1}},
	} {
		wantFault(t, "no token", c.text, c.want)
	}
}

// P6.1: any bytes: each text is parsed or refused, and none makes Parse panic.
func TestBytes(t *testing.T) {
	r := rand.New(rand.NewSource(6))
	for range 20000 {
		b := make([]byte, r.Intn(30))
		for i := range b {
			b[i] = byte(r.Intn(256))
		}
		s, fault := parse.Parse(string(b))
		if (fault == api.Fault{}) != nodes.Right(s) {
			t.Fatal(strconv.Quote(string(b)), fault)
		}
	}
}
