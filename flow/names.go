package flow

import (
	"slices"

	"twinstep/api"
)

// hiddenCount is how many variables without a name a for has.
const hiddenCount = 3

// scope is where variables and labels are together: a block, or what is around one for variables of its own.
type scope struct {
	around *scope // of the same function
	labels map[string]label
	newest int // the number of its last variable, of all that were made; 0: it has none
}

// within does what it is handed in a scope of its own, whose variables are gone behind it.
func (r *resolver) within(do func()) {
	f := r.at
	around, count := f.scope, len(f.vars)
	f.scope = &scope{around: around}
	do()
	f.scope, f.vars = around, f.vars[:count]
}

// make makes a variable, for a node of this line, and answers its slot.
func (r *resolver) make(name string, line int) int {
	f := r.at
	slot := len(f.vars)
	if slot == api.MaxSlots {
		r.fail(api.ErrLong, line)
		return 0
	}
	f.vars = append(f.vars, name)
	if slot == len(f.program.Boxed) {
		f.program.Boxed = append(f.program.Boxed, false)
	}
	r.made++
	f.scope.newest = r.made
	return slot
}

// makeAll makes variables of these names, and answers their slots.
func (r *resolver) makeAll(names []string, line int) []int {
	var slots []int
	for _, name := range names {
		slots = append(slots, r.make(name, line))
	}
	return slots
}

// hidden makes a loop's hidden variables, and answers the slot of the first one.
func (r *resolver) hidden(line int) int {
	return r.makeAll(make([]string, hiddenCount), line)[0]
}

// slot answers the slot of the variable of that name that was made last and is there.
func (f *function) slot(name string) (int, bool) {
	for slot, own := range slices.Backward(f.vars) {
		if own == name {
			return slot, true
		}
	}
	return 0, false
}

// meaning answers what an NName is, and which one.
func (r *resolver) meaning(n api.Node) (api.ExprKind, int) {
	if slot, ok := r.at.slot(n.Name); ok {
		return api.ESlot, slot
	}
	if up, ok := r.up(r.at, n); ok {
		return api.EUp, up
	}
	return api.EGlobal, r.text(n.Name)
}

// up answers which of f's Ups an NName is; it is no variable of f.
func (r *resolver) up(f *function, n api.Node) (int, bool) {
	outer := f.around
	if outer == nil {
		return 0, false
	}
	if slot, ok := outer.slot(n.Name); ok {
		outer.program.Boxed[slot] = true
		return r.addUp(f, api.Up{Local: true, At: slot}, n.Line), true
	}
	if at, ok := r.up(outer, n); ok {
		return r.addUp(f, api.Up{At: at}, n.Line), true
	}
	return 0, false
}

// addUp answers the place of up in f's Ups, where it stands from now on, if it did not ahead.
func (r *resolver) addUp(f *function, up api.Up, line int) int {
	// All variables that f sees of the one around it are there at once, so that no two are of one slot.
	if at := slices.Index(f.program.Ups, up); at >= 0 {
		return at
	}
	at := len(f.program.Ups)
	if at == api.MaxUps {
		r.fail(api.ErrLong, line)
		return 0
	}
	f.program.Ups = append(f.program.Ups, up)
	return at
}

// text answers the place of a text in Strs, where it stands from now on, if it did not ahead.
func (r *resolver) text(s string) int {
	at, ok := r.places[s]
	if !ok {
		at = len(r.strs)
		r.places[s] = at
		r.strs = append(r.strs, s)
	}
	return at
}
