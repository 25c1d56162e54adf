package gap

import (
	"cmp"
	"iter"
	"slices"

	"cippus/api"
)

// place is how far letters are laid: which cell is next, and how many it has if it is a gap; how many words there are, the last of them, and how many of its letters are laid.
type place struct{ cell, fill, words, last, at int }

// left is the place behind the cell.
func (p place) left() place {
	p.cell++
	p.fill = 0
	return p
}

// laid is the place behind the next letter, in the same cell.
func (p place) laid() place {
	p.fill++
	p.at++
	return p
}

// begun is the place at the beginning of one word more.
func (p place) begun(word int) place {
	p.words++
	p.last, p.at = word, 0
	return p
}

// search is a row whose letters are looked for. If they are not the whole row, they may end within a text, and within a word.
type search struct {
	lexicon api.Lexicon
	row     []api.Cell
	fitting []letters
	wide    widths
	whole   bool
	tried   map[place][]api.Span
}

func newSearch(x api.Lexicon, r []api.Cell, whole bool) *search {
	return &search{x, r, each(r, fitting), widthsOf(x), whole, map[place][]api.Span{}}
}

// rest returns the letters of the last word that are not laid.
func (s *search) rest(p place) string {
	if p.words == 0 {
		return ""
	}
	return s.lexicon.Words[p.last].Text[p.at:]
}

// following hands out the words that may be the next one.
func (s *search) following(p place) iter.Seq[int] {
	return func(yield func(word int) bool) {
		for word := range s.lexicon.Words {
			if mayFollow(s.lexicon, p.words, p.last, word) && !yield(word) {
				return
			}
		}
	}
}

// steps hands out the places that may come next, and the width that the cell gains: a gap is left; then a letter is laid, or a word is begun.
func (s *search) steps(p place) iter.Seq2[place, api.Span] {
	return func(yield func(next place, gained api.Span) bool) {
		if p.cell == len(s.row) {
			return
		}
		gap := s.row[p.cell].Gap
		if gap && !yield(p.left(), api.Span{}) {
			return
		}
		rest := s.rest(p)
		switch {
		case rest == "":
			for word := range s.following(p) {
				if !yield(p.begun(word), api.Span{}) {
					return
				}
			}
		case gap && p.fill < api.MaxFill:
			yield(p.laid(), s.wide.of(rest[:1]))
		case !gap && s.fitting[p.cell].has(rest[0]):
			yield(p.laid().left(), api.Span{})
		}
	}
}

// ended reports whether the letters laid may be all.
func (s *search) ended(p place) bool {
	return p.cell == len(s.row) && (!s.whole || s.rest(p) == "" && mayEnd(s.lexicon, p.words, p.last))
}

// lacks returns how much wider the letters of the cell may still get, in all ways that lead to an end but those that are no better than another one.
func (s *search) lacks(p place) []api.Span {
	if known, ok := s.tried[p]; ok {
		return known
	}
	var all []api.Span
	if s.ended(p) {
		all = append(all, api.Span{})
	}
	for next, gained := range s.steps(p) {
		if next.cell == p.cell {
			for _, lack := range s.lacks(next) {
				all = append(all, sum(lack, gained))
			}
		} else if s.leads(next, api.Span{}) {
			all = append(all, api.Span{})
		}
	}
	all = best(all)
	s.tried[p] = all
	return all
}

// best returns the widths, ascending, but those for which there is another one that fits wherever they fit.
func best(all []api.Span) []api.Span {
	slices.SortFunc(all, func(a, b api.Span) int {
		return cmp.Or(cmp.Compare(a.Low, b.Low), cmp.Compare(b.High, a.High))
	})
	var kept []api.Span
	for _, wide := range all {
		if len(kept) == 0 || wide.High > kept[len(kept)-1].High {
			kept = append(kept, wide)
		}
	}
	return kept
}

// leads reports whether an end can be reached from a place if the letters of its cell are so wide.
func (s *search) leads(p place, wide api.Span) bool {
	return slices.ContainsFunc(s.lacks(p), func(lack api.Span) bool {
		return s.fits(p, sum(wide, lack))
	})
}

// fits reports whether the cell of a place may be left with letters that are so wide.
func (s *search) fits(p place, wide api.Span) bool {
	return p.cell == len(s.row) || fits(wide, s.row[p.cell].Width)
}

// possible reports whether there are any letters for the row.
func (s *search) possible() bool { return s.leads(place{}, api.Span{}) }
