package table

import (
	"twinstep/api"
)

// place is a key with its value. Places are tied to one another, so that one that goes moves no other.
type place struct {
	key, value    api.Value
	ahead, behind *place
	// noted tells that it stands among the faded ones.
	noted bool
}

func (p *place) dead() bool { return p.value.Kind == api.KNil }

// firstBehind answers the first place behind p for which is holds; the ends, if there is none.
func (t *Table) firstBehind(p *place, is func(*place) bool) *place {
	for p = p.behind; p != &t.ends && !is(p); p = p.behind {
	}
	return p
}

// add answers a new place of k, the last one, which is dead still.
func (t *Table) add(k api.Value) *place {
	p := &place{key: k, ahead: t.ends.ahead, behind: &t.ends}
	p.ahead.behind, p.behind.ahead = p, p
	t.places[k] = p
	return p
}

// drop takes a place out.
func (t *Table) drop(p *place) {
	p.ahead.behind, p.behind.ahead = p.behind, p.ahead
	delete(t.places, p.key)
}

// dropDead takes all dead places out: of the faded ones, those that have no value again.
func (t *Table) dropDead() {
	for _, p := range t.faded {
		p.noted = false
		if p.dead() {
			t.drop(p)
		}
	}
	t.faded = nil
}

// put makes v the value of a place.
func (t *Table) put(p *place, v api.Value) {
	was := p.dead()
	p.value = v
	switch {
	case was && !p.dead():
		t.live++
		t.lengthen()
	case !was && p.dead():
		t.live--
		t.shorten(p.key)
		t.note(p)
	}
}

// note keeps a place that has died for when dead ones go.
func (t *Table) note(p *place) {
	if !p.noted {
		p.noted = true
		t.faded = append(t.faded, p)
	}
}

// lengthen carries the length on over all integers that have a value.
func (t *Table) lengthen() {
	for t.Get(api.Value{Kind: api.KInt, N: t.length + 1}).Kind != api.KNil {
		t.length++
	}
}

// shorten draws the length back ahead of a key that has no value any more.
func (t *Table) shorten(k api.Value) {
	if k.Kind == api.KInt && k.N >= 1 && k.N <= t.length {
		t.length = k.N - 1
	}
}
