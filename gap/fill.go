package gap

import (
	"iter"
	"slices"

	"cippus/api"
)

// way is how the letters of some words may be laid: where they end, how wide those in the cell there are, and how many the gaps ahead of it have.
type way struct {
	end   place
	wide  api.Span
	fills []int
}

// fillings hands out all fillings, in order. The words are tried one by one, but all ways to lay them at once, because the fills are in order behind the words.
func (s *search) fillings() iter.Seq[api.Filling] {
	return func(yield func(api.Filling) bool) {
		var extend func(words []int, ways []way) bool
		extend = func(words []int, ways []way) bool {
			for _, fills := range s.complete(ways) {
				if !yield(api.Filling{Words: slices.Clone(words), Fills: fills}) {
					return false
				}
			}
			for word := range s.following(ways[0].end) {
				longer := s.longer(ways, word)
				if len(longer) > 0 && !extend(append(words, word), longer) {
					return false
				}
			}
			return true
		}
		extend(nil, []way{{}})
	}
}

// complete returns the fills of those ways that may end with what they have.
func (s *search) complete(ways []way) [][]int {
	var all [][]int
	for _, w := range ways {
		for w.end.cell < len(s.row) && s.row[w.end.cell].Gap && s.fits(w.end, w.wide) {
			w = s.moved(w, w.end.left(), api.Span{})
		}
		if s.ended(w.end) {
			all = append(all, slices.Clone(w.fills))
		}
	}
	return all
}

// longer returns all ways to lay one word more from which an end can be reached. They stay in the order of their fills, since a gap is left before it gets a letter more.
func (s *search) longer(ways []way, word int) []way {
	var all []way
	var lay func(w way)
	lay = func(w way) {
		if s.rest(w.end) == "" {
			all = append(all, w)
			return
		}
		for next, gained := range s.steps(w.end) {
			if next.cell > w.end.cell && !s.fits(w.end, w.wide) {
				continue
			}
			if after := s.moved(w, next, gained); s.leads(after.end, after.wide) {
				lay(after)
			}
		}
	}
	for _, w := range ways {
		w.end = w.end.begun(word)
		lay(w)
	}
	return all
}

// moved returns the way after a step.
func (s *search) moved(w way, next place, gained api.Span) way {
	if next.cell == w.end.cell {
		w.wide = sum(w.wide, gained)
	} else if s.row[w.end.cell].Gap {
		w.fills = append(slices.Clone(w.fills), w.end.fill)
		w.wide = api.Span{}
	}
	w.end = next
	return w
}
