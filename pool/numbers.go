package pool

// numbers is a heap: no number is less than the one at its parent's place, so that the least one stands first.
type numbers []int

// sift moves the number at a place on to where step tells, till step tells the place where it is.
func (h numbers) sift(at int, step func(at int) int) {
	for to := step(at); to != at; to = step(at) {
		h[at], h[to] = h[to], h[at]
		at = to
	}
}

// push puts a number in.
func (h *numbers) push(n int) {
	list := append(*h, n)
	*h = list
	list.sift(len(list)-1, func(at int) int {
		// The first place comes to be its own parent.
		parent := (at - 1) / 2
		if list[at] < list[parent] {
			return parent
		}
		return at
	})
}

// pop takes the least number out; there is one.
func (h *numbers) pop() int {
	list, last := *h, len(*h)-1
	least := list[0]
	list[0] = list[last]
	list = list[:last]
	*h = list
	list.sift(0, func(at int) int {
		to := at
		for kid := 2*at + 1; kid <= 2*at+2 && kid < len(list); kid++ {
			if list[kid] < list[to] {
				to = kid
			}
		}
		return to
	})
	return least
}
