package collect_test

import (
	"slices"

	"twinstep/api"
	"twinstep/heap"
)

// plain_test.go: the chapter's words once more, of a plain collector that goes through lists.

// plain is a collector of a heap of its own.
type plain struct {
	heap               *heap.Heap
	phase, cycles      int
	marked, line, list []api.Value
}

func (p *plain) isMarked(v api.Value) bool { return p.phase != 0 && slices.Contains(p.marked, v) }

// mark marks a value, which stands in the line then, if it is to.
func (p *plain) mark(v api.Value, stands bool) {
	if !p.heap.Has(v) || p.isMarked(v) {
		return
	}
	p.marked = append(p.marked, v)
	if stands {
		p.line = append(p.line, v)
	}
}

func (p *plain) goThrough(v api.Value) {
	for _, kid := range p.heap.Kids(v) {
		p.mark(kid, true)
	}
}

func (p *plain) start(roots []api.Value) api.Errno {
	if p.phase != 0 {
		return api.ErrState
	}
	p.heap.Watch(true)
	p.phase, p.marked, p.line, p.list = 1, nil, nil, nil
	for _, v := range roots {
		p.mark(v, true)
	}
	return api.OK
}

func (p *plain) step(n int, roots []api.Value) int {
	freed := 0
	for ; n > 0 && p.phase != 0; n-- {
		freed += p.one(roots)
	}
	return freed
}

// one does one step: a line of the chapter's table.
func (p *plain) one(roots []api.Value) int {
	if p.phase == 1 && len(p.line) > 0 {
		v := p.line[0]
		p.line = slices.Delete(p.line, 0, 1)
		p.goThrough(v)
		return 0
	}
	if p.phase == 1 {
		p.allAtOnce(roots)
		return 0
	}
	if len(p.list) == 0 {
		p.heap.Watch(false)
		p.cycles++
		p.phase = 0
		return 0
	}
	for _, v := range p.heap.Dirty() {
		p.mark(v, false)
	}
	v := p.list[0]
	p.list = slices.Delete(p.list, 0, 1)
	if p.isMarked(v) || p.heap.Free(v) != api.OK {
		return 0
	}
	return 1
}

func (p *plain) allAtOnce(roots []api.Value) {
	for _, v := range roots {
		p.mark(v, true)
	}
	for _, v := range p.heap.Dirty() {
		p.mark(v, true)
		p.goThrough(v)
	}
	for at := 0; at < len(p.line); at++ {
		p.goThrough(p.line[at])
	}
	p.phase, p.line, p.list = 2, nil, p.heap.Objects()
}

func (p *plain) full(roots []api.Value) int {
	p.phase = 0
	p.start(roots)
	freed := 0
	for p.phase != 0 {
		freed += p.one(roots)
	}
	return freed
}
