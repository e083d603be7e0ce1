package collect

import "twinstep/api"

// each hands each value of a list to one, in order.
func each(list []api.Value, one func(api.Value)) {
	for _, v := range list {
		one(v)
	}
}

// mark marks v, and tells whether it was an object that is there and not marked.
func (c *Collector) mark(v api.Value) bool {
	if c.Marked(v) || !c.heap.Has(v) {
		return false
	}
	c.marks[v] = struct{}{}
	return true
}

// toLine answers what marks a value; one that was not marked stands at the end of the line then.
func (c *Collector) toLine() func(api.Value) {
	return func(v api.Value) {
		if c.mark(v) {
			c.line = append(c.line, v)
		}
	}
}

// goThrough marks what an object leads to.
func (c *Collector) goThrough(v api.Value) { each(c.heap.Kids(v), c.toLine()) }

// goThroughFirst goes through the first object of the line.
func (c *Collector) goThroughFirst() {
	first := c.line[0]
	c.line = c.line[1:]
	c.goThrough(first)
}

// endMarking marks all that is reached at once, so that nothing can be moved behind a mark meanwhile, and begins to sweep.
func (c *Collector) endMarking(roots []api.Value) {
	toLine := c.toLine()
	each(roots, toLine)
	each(c.heap.Dirty(), func(v api.Value) {
		toLine(v)
		c.goThrough(v)
	})
	for len(c.line) > 0 {
		c.goThroughFirst()
	}
	c.line = nil
	c.list = c.heap.Objects()
	c.phase = sweeping
}

// sweepFirst looks at the first object of the list, and answers how many objects were freed: one, or none.
func (c *Collector) sweepFirst() int {
	// What Str has told again may not have been reached, and is in use now.
	each(c.heap.Dirty(), func(v api.Value) { c.mark(v) })
	first := c.list[0]
	c.list = c.list[1:]
	if c.Marked(first) || c.heap.Free(first) != api.OK {
		return 0
	}
	return 1
}

// rest makes it idle, and forgets what a cycle has.
func (c *Collector) rest() {
	c.phase = idle
	c.marks, c.line, c.list = nil, nil, nil
}
