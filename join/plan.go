package join

import (
	"iter"
	"slices"

	"cippus/api"
	"cippus/basics"
)

// none is what a plan says of a piece that has no piece joined to its right.
const none = -1

// firsts tells of each strip whether the first line of a piece may stand in it.
type firsts [api.MaxBase + 1]bool

func firstsOf(base api.Span) firsts {
	var f firsts
	for strip := range within(base) {
		f[strip] = true
	}
	return f
}

// behind returns where the first line of the right piece may stand, given where that of the left one may.
func (p pair) behind(left firsts) firsts {
	var right firsts
	for second := range within(p.right().Base) {
		for first, may := range left {
			if step, level := p.step(first, second); may && level && p.spelt(step) {
				right[second] = true
			}
		}
	}
	return right
}

// joined returns the same for all shifts that the breaks allow.
func joined(h api.Heap, a, b int, left firsts) firsts {
	var right firsts
	for p := range pairs(h, a, b) {
		_, tooFew := p.byStrips()
		_, broken := p.byBreak()
		if tooFew || broken {
			continue
		}
		for strip, may := range p.behind(left) {
			right[strip] = right[strip] || may
		}
	}
	return right
}

// mayBe reports whether a plan that has no other error may be. Its stones have nothing to do with each other.
func mayBe(h api.Heap, next []int) bool {
	for piece := range next {
		if !slices.Contains(next, piece) && !stoneMayBe(h, next, piece) {
			return false
		}
	}
	return true
}

// stoneMayBe goes from piece to piece: of all pieces on the left, it is enough to know how thick they may be, and where the first line of the last one may stand. Each break is between two pieces alone.
func stoneMayBe(h api.Heap, next []int, piece int) bool {
	thick, lines := h.Pieces[piece].Thick, firstsOf(h.Pieces[piece].Base)
	for next[piece] != none {
		right := next[piece]
		thick = basics.Common(thick, h.Pieces[right].Thick)
		lines = joined(h, piece, right, lines)
		if empty(thick) || lines == (firsts{}) {
			return false
		}
		piece = right
	}
	return true
}

// checkPlan returns the first error of what a plan says.
func checkPlan(next []int, pieces int) api.Errno {
	if len(next) != pieces {
		return api.ErrShape
	}
	for piece, right := range next {
		switch {
		case basics.Outside(right, none, pieces-1):
			return api.ErrAbsent
		case right != none && slices.Contains(next[:piece], right):
			return api.ErrTwice
		}
	}
	for piece := range next {
		if comesBack(next, piece) {
			return api.ErrSequence
		}
	}
	return api.OK
}

// comesBack reports whether a piece, by going on to the right, comes back to itself.
func comesBack(next []int, piece int) bool {
	at := piece
	for range next {
		at = next[at]
		if at == piece || at == none {
			break
		}
	}
	return at == piece
}

// plans hands out all plans with so many stones, in lexicographic order. A plan is the iterator's own: it changes afterwards.
func plans(pieces, stones int) iter.Seq[[]int] {
	return func(yield func([]int) bool) {
		next := slices.Repeat([]int{none}, pieces)
		var plan func(piece, ends int) bool
		plan = func(piece, ends int) bool {
			if piece == pieces {
				return ends != stones || yield(next)
			}
			if !plan(piece+1, ends+1) {
				return false
			}
			for right := range pieces {
				if slices.Contains(next[:piece], right) {
					continue
				}
				next[piece] = right
				if !comesBack(next, piece) && !plan(piece+1, ends) {
					return false
				}
			}
			next[piece] = none
			return true
		}
		plan(0, 0)
	}
}

// found is what leaves the search for a plan, from whatever depth: a plan, and how many stones it has.
type found struct {
	next   []int
	stones int
}

// fewest returns the plan that may be with the fewest stones, of several the first one. There is always one: that which joins nothing.
func fewest(h api.Heap) (best found) {
	defer func() {
		cause := recover()
		plan, ok := cause.(found)
		if cause != nil && !ok {
			panic(cause)
		}
		best = plan
	}()
	for stones := 1; stones <= len(h.Pieces); stones++ {
		for next := range plans(len(h.Pieces), stones) {
			if mayBe(h, next) {
				panic(found{slices.Clone(next), stones})
			}
		}
	}
	return found{}
}
