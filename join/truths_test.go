package join

import (
	"math/rand"
	"slices"
	"sync"

	"cippus/api"
)

func span(low, high int) api.Span { return api.Span{Low: low, High: high} }

// spans makes a list of spans of their numbers.
func spans(numbers ...int) []api.Span {
	var list []api.Span
	for i := 0; i < len(numbers); i += 2 {
		list = append(list, span(numbers[i], numbers[i+1]))
	}
	return list
}

// exact makes spans that have one number each.
func exact(numbers ...int) []api.Span {
	var list []api.Span
	for _, n := range numbers {
		list = append(list, span(n, n))
	}
	return list
}

// example is the heap H of the chapter.
func example() api.Heap {
	return api.Heap{Pitch: 2, Loss: 3, Least: 2, Pieces: []api.Piece{
		{Thick: span(40, 45), Left: spans(0, 0, 0, 0, 0, 0), Right: spans(50, 52, 55, 56, 51, 53), Begins: []string{"B", "C"}, Ends: []string{"AM", ""}},
		{Thick: span(44, 50), Base: span(0, 1), Left: spans(10, 11, 15, 16, 11, 12), Right: spans(90, 90, 90, 90, 90, 90), Begins: []string{"MN", ""}, Ends: []string{"", ""}},
	}}
}

// with returns the heap of the chapter with a change.
func with(change func(h *api.Heap)) api.Heap {
	h := example()
	change(&h)
	return h
}

// straight is a piece of so many strips with straight edges, whose first line may stand within some strips.
func straight(strips int, base api.Span) api.Piece {
	return api.Piece{Thick: span(9, 9), Base: base, Left: slices.Repeat(spans(0, 0), strips), Right: slices.Repeat(spans(5, 5), strips)}
}

// lettered is a piece of one strip whose lines begin and end with such halves.
func lettered(base api.Span, begins, ends []string) api.Piece {
	p := straight(1, base)
	p.Begins, p.Ends = begins, ends
	return p
}

// heapOf is a heap of pieces between which nothing is lost.
func heapOf(pitch, least int, pieces ...api.Piece) api.Heap {
	return api.Heap{Pitch: pitch, Least: least, Pieces: pieces}
}

// cloned returns a heap that shares no memory with the one given.
func cloned(h api.Heap) api.Heap {
	h.Pieces = slices.Clone(h.Pieces)
	for i := range h.Pieces {
		p := &h.Pieces[i]
		p.Left, p.Right = slices.Clone(p.Left), slices.Clone(p.Right)
		p.Begins, p.Ends = slices.Clone(p.Begins), slices.Clone(p.Ends)
	}
	return h
}

// sidesOf returns all spans of a heap, to be changed.
func sidesOf(h *api.Heap) []*api.Span {
	var list []*api.Span
	for i := range h.Pieces {
		p := &h.Pieces[i]
		list = append(list, &p.Thick, &p.Base)
		for k := range p.Left {
			list = append(list, &p.Left[k], &p.Right[k])
		}
	}
	return list
}

// halvesOf returns all halves of letters of a heap, to be changed.
func halvesOf(h *api.Heap) []*string {
	var list []*string
	for i := range h.Pieces {
		p := &h.Pieces[i]
		for k := range p.Begins {
			list = append(list, &p.Begins[k], &p.Ends[k])
		}
	}
	return list
}

// truth is how a piece truly is.
type truth struct {
	thick, base int
	left, right []int
}

// truthsOf returns all that a piece may be.
func truthsOf(p api.Piece) []truth {
	sides := append([]api.Span{p.Thick, p.Base}, append(slices.Clone(p.Left), p.Right...)...)
	lists := [][]int{nil}
	for _, s := range sides {
		var longer [][]int
		for _, list := range lists {
			for n := s.Low; n <= s.High; n++ {
				longer = append(longer, append(slices.Clone(list), n))
			}
		}
		lists = longer
	}
	var all []truth
	for _, list := range lists {
		all = append(all, truth{list[0], list[1], list[2 : 2+len(p.Left)], list[2+len(p.Left):]})
	}
	return all
}

// breakFits reports whether pieces are side by side with a shift and a distance.
func breakFits(h api.Heap, a, b truth, shift, distance int) bool {
	many := 0
	for j, begin := range b.left {
		i := j + shift
		if i < 0 || i >= len(a.right) {
			continue
		}
		if lost := distance + begin - a.right[i]; lost < 0 || lost > h.Loss {
			return false
		}
		many++
	}
	return many >= h.Least
}

// linesFit reports whether the lines of pieces are level, and their halves make letters; with the step.
func linesFit(h api.Heap, a, b api.Piece, s, t truth, shift int) (int, bool) {
	for step := -40; step <= 40; step++ {
		if s.base-t.base-shift != step*h.Pitch {
			continue
		}
		for k, ends := range a.Ends {
			for m, begins := range b.Begins {
				if m == k+step && !shared(ends, begins) {
					return 0, false
				}
			}
		}
		return step, true
	}
	return 0, false
}

func shared(ends, begins string) bool {
	for letter := byte('A'); letter <= 'Z'; letter++ {
		if slices.Contains([]byte(ends), letter) && slices.Contains([]byte(begins), letter) {
			return true
		}
	}
	return len(ends)+len(begins) == 0
}

// farthest is more than all distances and shifts of small heaps.
const farthest = 30

// told is what all truths in which a piece is joined to the right of another one, with a shift, have together.
type told struct {
	distance, thick api.Span
	steps           []int
}

// joinsOf goes through all truths of two pieces; it returns what they tell for each shift with which they are joined in some of them.
func joinsOf(h api.Heap, a, b int) map[int]told {
	all := map[int]told{}
	for _, s := range truthsOf(h.Pieces[a]) {
		for _, t := range truthsOf(h.Pieces[b]) {
			for shift := -9; s.thick == t.thick && shift <= 9; shift++ {
				step, level := linesFit(h, h.Pieces[a], h.Pieces[b], s, t, shift)
				for distance := -farthest; level && distance <= farthest; distance++ {
					if breakFits(h, s, t, shift, distance) {
						all[shift] = all[shift].and(distance, s.thick, step)
					}
				}
			}
		}
	}
	return all
}

// and returns what is told if there is one truth more.
func (w told) and(distance, thick, step int) told {
	if w.steps == nil {
		return told{span(distance, distance), span(thick, thick), []int{step}}
	}
	w.distance = span(min(w.distance.Low, distance), max(w.distance.High, distance))
	w.thick = span(min(w.thick.Low, thick), max(w.thick.High, thick))
	if at, there := slices.BinarySearch(w.steps, step); !there {
		w.steps = slices.Insert(w.steps, at, step)
	}
	return w
}

// joinedIn returns which pieces are joined to the right of which in a truth, with whatever shift: 1 shifted by 8a+b if b is to that of a.
func joinedIn(h api.Heap, truths []truth) uint64 {
	var set uint64
	for a, s := range truths {
		for b, t := range truths {
			for shift := -9; a != b && s.thick == t.thick && shift <= 9; shift++ {
				_, level := linesFit(h, h.Pieces[a], h.Pieces[b], s, t, shift)
				for distance := -farthest; level && distance <= farthest; distance++ {
					if breakFits(h, s, t, shift, distance) {
						set |= 1 << (8*a + b)
					}
				}
			}
		}
	}
	return set
}

// setsOf goes through all truths of a heap; it returns what joinedIn says of each.
func setsOf(h api.Heap) []uint64 {
	all := [][]truth{nil}
	for _, p := range h.Pieces {
		var longer [][]truth
		for _, truths := range all {
			for _, s := range truthsOf(p) {
				longer = append(longer, append(slices.Clone(truths), s))
			}
		}
		all = longer
	}
	var sets []uint64
	for _, truths := range all {
		sets = append(sets, joinedIn(h, truths))
	}
	slices.Sort(sets)
	return slices.Compact(sets)
}

// listsOf returns all lists of so many numbers from -1 on, that are less than so many, in lexicographic order.
func listsOf(pieces int) [][]int {
	lists := [][]int{nil}
	for range pieces {
		var longer [][]int
		for _, list := range lists {
			for n := -1; n < pieces; n++ {
				longer = append(longer, append(slices.Clone(list), n))
			}
		}
		lists = longer
	}
	return lists
}

// shapeOf returns what is wrong with a list of listsOf as a plan of whatever heap.
func shapeOf(next []int) api.Errno {
	for i, n := range next {
		if n >= 0 && slices.Index(next, n) < i {
			return api.ErrTwice
		}
	}
	for i := range next {
		at := i
		for range 9 {
			if at = next[at]; at < 0 {
				break
			}
		}
		if at >= 0 {
			return api.ErrSequence
		}
	}
	return api.OK
}

// stonesOf counts the pieces that are not to the right of another one.
func stonesOf(next []int) int {
	many := 0
	for i := range next {
		if !slices.Contains(next, i) {
			many++
		}
	}
	return many
}

// planFits reports whether all joins of a plan are in one of the sets.
func planFits(sets []uint64, next []int) bool {
	var all uint64
	for a, b := range next {
		if b >= 0 {
			all |= 1 << (8*a + b)
		}
	}
	return slices.ContainsFunc(sets, func(set uint64) bool { return set&all == all })
}

// truthsIn counts the truths of a heap.
func truthsIn(h api.Heap) int {
	many := 1
	for _, s := range sidesOf(&h) {
		many *= s.High - s.Low + 1
	}
	return many
}

// smallHeap returns a heap with few truths.
func smallHeap(r *rand.Rand, pieces, truths int) api.Heap {
	h := api.Heap{Pitch: 1 + r.Intn(3), Loss: r.Intn(3), Least: 1 + r.Intn(2)}
	for range pieces {
		p := api.Piece{Thick: span(4, 4), Base: exact(r.Intn(4))[0]}
		if r.Intn(3) == 0 {
			p.Thick = exact(4 + r.Intn(2))[0]
		}
		for range 1 + r.Intn(3) {
			p.Left = append(p.Left, exact(r.Intn(3))...)
			p.Right = append(p.Right, exact(4+r.Intn(3))...)
		}
		halves := []string{"", "A", "B", "AB", "A", "AB"}
		for range r.Intn(4) {
			p.Begins = append(p.Begins, halves[r.Intn(len(halves))])
			p.Ends = append(p.Ends, halves[r.Intn(len(halves))])
		}
		h.Pieces = append(h.Pieces, p)
	}
	sides := sidesOf(&h)
	for range 12 {
		s := sides[r.Intn(len(sides))]
		s.High++
		if truthsIn(h) > truths {
			s.High--
		}
	}
	return h
}

// small is a heap with few truths, and what all of them say.
type small struct {
	h    api.Heap
	sets []uint64
}

// smalls are heaps of one to four pieces.
var smalls = sync.OnceValue(func() []small {
	r := rand.New(rand.NewSource(4))
	var list []small
	for i := range 400 {
		h := smallHeap(r, []int{3, 2, 3, 4, 3, 1}[i%6], 600)
		list = append(list, small{h, setsOf(h)})
	}
	return list
})
