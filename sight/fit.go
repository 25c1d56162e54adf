package sight

import (
	"cmp"
	"iter"
	"math/bits"
	"slices"

	"cippus/api"
)

// allStrokes is the greatest set of strokes, that of all of them.
const allStrokes = 1<<api.MaxStrokes - 1

// never is how many marks a letter needs that cannot be in a square: more than all strokes of a line, so that no sum with it is ever mistaken for one that can be.
const never = api.MaxSquares*api.MaxStrokes + 1

// strokes is a set of strokes.
type strokes uint16

// common returns how many strokes both sets have.
func (s strokes) common(other strokes) int { return bits.OnesCount16(uint16(s & other)) }

// beyond returns how many strokes the other set does not have.
func (s strokes) beyond(other strokes) int { return bits.OnesCount16(uint16(s &^ other)) }

// needs is how many marks each letter of a hand needs at least, square by square.
type needs [api.MaxSquares][api.MaxShapes]int

// cutter is the letters of a hand that may have cut the line, and the marks that they need.
type cutter struct {
	shapes []api.Shape
	needs  needs
}

func cutters(l api.Line) []cutter {
	var all []cutter
	for _, hand := range l.Hands {
		all = append(all, cutter{hand.Shapes, needed(l, hand.Shapes)})
	}
	return all
}

// needed weighs letters against the lights alone: a stroke that no light shows is free to be as the letter has it, and needs no mark.
func needed(l api.Line, shapes []api.Shape) needs {
	var n needs
	for square, lights := range l.Squares {
		visible, hidden := evidence(lights)
		contradicted := visible.common(hidden) > 0
		scratched, worn := visible.beyond, hidden.common
		for i, shape := range shapes {
			s, w := scratched(strokes(shape.Strokes)), worn(strokes(shape.Strokes))
			if contradicted || s > l.Scratched || w > l.Worn {
				n[square][i] = never
			} else {
				n[square][i] = s + w
			}
		}
	}
	return n
}

// evidence returns the strokes that were seen in some light, and those that were not seen in a light that shows them.
func evidence(lights []api.Light) (visible, hidden strokes) {
	for _, light := range lights {
		visible |= strokes(light.Seen)
		hidden |= strokes(light.Shows &^ light.Seen)
	}
	return visible, hidden
}

// fewest returns how many marks the square needs at least, whichever letter it has.
func (c cutter) fewest(square int) int {
	return least(never, c.needs[square][:len(c.shapes)]...)
}

// choices hands out the letters that may be in a square with at most so many marks.
func (c cutter) choices(square, most int) iter.Seq[byte] {
	return func(yield func(byte) bool) {
		for i, shape := range c.shapes {
			if c.needs[square][i] <= most && !yield(shape.Letter) {
				return
			}
		}
	}
}

// fitting hands out the hands that fit, and how many marks each leaves of Total if every square has as few as it needs.
func fitting(l api.Line, all []cutter) iter.Seq2[int, int] {
	return func(yield func(hand, left int) bool) {
	hands:
		for hand, c := range all {
			left := l.Total
			for square := range l.Squares {
				left -= c.fewest(square)
				if left < 0 {
					continue hands
				}
			}
			if !yield(hand, left) {
				return
			}
		}
	}
}

// gather returns for each square the set of the letters that fit.
func gather(l api.Line, all []cutter) []map[byte]bool {
	sets := make([]map[byte]bool, len(l.Squares))
	for square := range sets {
		sets[square] = map[byte]bool{}
	}
	for hand, left := range fitting(l, all) {
		for square := range sets {
			most := all[hand].fewest(square) + left
			for letter := range all[hand].choices(square, most) {
				sets[square][letter] = true
			}
		}
	}
	return sets
}

// inOrder copies the letters of a set into a slice, each to its place in the alphabet.
func inOrder(set map[byte]bool) string {
	letters := make([]byte, 0, len(set))
	for letter := range set {
		at, _ := slices.BinarySearch(letters, letter)
		letters = append(letters, letter)
		copy(letters[at+1:], letters[at:])
		letters[at] = letter
	}
	return string(letters)
}

// rest returns how many letters fit the other squares at most if it is known which one of its letters a square has.
func rest(l api.Line, all []cutter, square int, letters string) int {
	most := 0
	for i := range len(letters) {
		sum := 0
		for other, set := range gather(l, known(all, square, letters[i])) {
			if other != square {
				sum += len(set)
			}
		}
		most = max(most, sum)
	}
	return most
}

// known returns the cutters as they are if a square has that letter. What they need is an array, so that those given stay as they were.
func known(all []cutter, square int, letter byte) []cutter {
	var sure []cutter
	for _, c := range all {
		for i, shape := range c.shapes {
			if shape.Letter != letter {
				c.needs[square][i] = never
			}
		}
		sure = append(sure, c)
	}
	return sure
}

// least returns the least of some numbers.
func least[N cmp.Ordered](first N, others ...N) N {
	for _, n := range others {
		first = min(first, n)
	}
	return first
}
