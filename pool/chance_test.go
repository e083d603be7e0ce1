package pool_test

import (
	"math"
	"math/rand"
	"slices"
	"testing"

	"twinstep/api"
	"twinstep/pool"
)

// chance_test.go: long scripts by chance, and P12.3.

// step is a call of a script.
type step struct {
	what     string
	id, size int
}

// anId answers a number: of an object mostly, of one that is gone or never was, or none that could be.
func anId(g *rand.Rand, count int) int {
	switch g.Intn(12) {
	case 0:
		return never()[g.Intn(len(never()))]
	case 1:
		return count + 1 + g.Intn(3)
	}
	return 1 + g.Intn(count+1)
}

// aSize answers a size: a small one mostly, what is left and beside that, or one that cannot be.
func aSize(g *rand.Rand, most, left int) int {
	switch g.Intn(14) {
	case 0:
		return below()[g.Intn(len(below()))]
	case 1:
		return left + g.Intn(3) - 1
	case 2:
		return most + g.Intn(3) - 1
	case 3:
		return []int{greatest, greatest + 1, math.MaxInt32, math.MaxInt - most, math.MaxInt}[g.Intn(5)]
	case 4, 5:
		return 0
	}
	return g.Intn(2 + most/10)
}

// chanceStep answers a call, which tends to take, or to give back.
func chanceStep(g *rand.Rand, tend int, count, most, left int) step {
	s := step{id: anId(g, count), size: aSize(g, most, left)}
	switch n := g.Intn(20); {
	case n < tend:
		s.what = "take"
	case n < 15:
		s.what = "give"
	case n < 19:
		s.what = "resize"
	default:
		s.what = "copy"
	}
	return s
}

// done does a step, and answers the pool to go on with.
func (a *asked) done(g *rand.Rand, s step) *asked {
	a.t.Helper()
	switch s.what {
	case "take":
		a.took(s.size)
	case "give":
		a.gave(s.id)
	case "resize":
		a.resized(s.id, s.size)
	case "copy":
		b := a.copied()
		if g.Intn(2) == 0 {
			a, b = b, a
		}
		// The other one is changed, and must not be told of here.
		for range 3 {
			b.took(g.Intn(3))
			b.gave(1 + g.Intn(5))
		}
		a.told()
	}
	return a
}

// Long scripts against the plain list: all is asked behind each call.
func TestScripts(t *testing.T) {
	g := rand.New(rand.NewSource(5))
	greatestCount, refused := 0, 0
	for _, most := range []int{0, 1, 2, 5, 20, 100, 1000, 65536, greatest - 1, greatest} {
		for range 6 {
			a := begin(t, most)
			tend := 9
			for at := range 500 {
				if at%60 == 0 {
					tend = 5 + g.Intn(8)
				}
				left := most - a.plain.usedBut(0)
				s := chanceStep(g, tend, len(a.plain.objects), most, left)
				count := len(a.plain.objects)
				a = a.done(g, s)
				if s.what == "take" && len(a.plain.objects) == count {
					refused++
				}
				greatestCount = max(greatestCount, count)
			}
		}
	}
	if greatestCount < 40 || refused < 1000 {
		t.Error("scripts that do too little: ", greatestCount, refused)
	}
}

// answers does a script, and tells all that was answered.
func answers(p *pool.Pool, script []step) []int {
	var out []int
	for _, s := range script {
		var id int
		var err api.Errno
		switch s.what {
		case "take":
			id, err = p.Take(s.size)
		case "give":
			err = p.Give(s.id)
		case "resize":
			err = p.Resize(s.id, s.size)
		case "copy":
			p = p.Copy()
		}
		size, ok := p.Size(s.id)
		if ok {
			size += greatest + 1
		}
		out = append(out, id, int(err), size, p.Used(), p.Count())
		out = append(out, p.Ids()...)
	}
	return out
}

// P12.3: the same calls on two pools are answered alike, with copies put in between or not.
func TestAlike(t *testing.T) {
	g := rand.New(rand.NewSource(6))
	for range 60 {
		most := []int{3, 30, 300, greatest}[g.Intn(4)]
		var script, straight []step
		for range 400 {
			s := chanceStep(g, 9, 40, most, most/2)
			script = append(script, s)
			if s.what != "copy" {
				straight = append(straight, s)
			}
		}
		ask := func(script []step) []int {
			p, err := pool.New(most)
			if err != api.OK {
				t.Fatal(err)
			}
			return answers(p, script)
		}
		if !slices.Equal(ask(script), ask(script)) {
			t.Fatal("not alike: ", script)
		}
		var between []step
		for _, s := range straight {
			between = append(between, s, step{what: "copy", id: s.id})
		}
		if !slices.Equal(ask(straight), everySecond(t, ask, between)) {
			t.Fatal("not alike with copies: ", straight)
		}
	}
}

// everySecond answers what ask answers of a script, but for each second step, which must be told alike.
func everySecond(t *testing.T, ask func([]step) []int, script []step) []int {
	t.Helper()
	all := ask(script)
	var out []int
	for at := 0; at < len(all); {
		end := at + 5 + all[at+4]
		next := end + 5 + all[end+4]
		if !slices.Equal(all[at+2:end], all[end+2:next]) {
			t.Fatal("a copy tells other than what it was made of")
		}
		out = append(out, all[at:end]...)
		at = next
	}
	return out
}

// P12.3: Used is never above the bound, and no number is handed out twice until it was given back: asked of the answers alone.
func TestFollows(t *testing.T) {
	g := rand.New(rand.NewSource(7))
	for _, most := range []int{0, 7, 50, 5000, greatest} {
		p, _ := pool.New(most)
		out := map[int]int{}
		for range 20000 {
			s := chanceStep(g, 8, 30, most, most-p.Used())
			switch s.what {
			case "take":
				id, err := p.Take(s.size)
				if _, twice := out[id]; twice || (err == api.OK) != (id > 0) {
					t.Fatal(most, s, id, err)
				}
				if err == api.OK {
					out[id] = s.size
				}
			case "give":
				_, there := out[s.id]
				if err := p.Give(s.id); (err == api.OK) != there {
					t.Fatal(most, s, err)
				}
				delete(out, s.id)
			case "resize":
				if p.Resize(s.id, s.size) == api.OK {
					out[s.id] = s.size
				}
			case "copy":
				p = p.Copy()
			}
			used := 0
			for _, size := range out {
				used += size
			}
			if p.Used() != used || used > most || p.Count() != len(out) {
				t.Fatal(most, s, p.Used(), used, p.Count(), len(out))
			}
		}
	}
}
