package date

import (
	"cmp"
	"math/bits"
	"slices"
)

// set is a set of notes: 1 for the note 0, 2 for the note 1, 4 for the note 2, and so on, together.
type set uint

func (s set) has(note int) bool { return s>>note&1 == 1 }

func (s set) size() int { return bits.OnesCount(uint(s)) }

// list returns the notes, ascending.
func (s set) list() []int {
	var list []int
	for note := range bits.Len(uint(s)) {
		if s.has(note) {
			list = append(list, note)
		}
	}
	return list
}

// compare puts sets with fewer notes first, equally great ones in the lexicographic order of their lists.
func (s set) compare(other set) int {
	return cmp.Or(cmp.Compare(s.size(), other.size()), slices.Compare(s.list(), other.list()))
}

// sets returns all sets of so many notes, in order.
func sets(notes int) []set {
	all := make([]set, 1<<notes)
	for i := range all {
		all[i] = set(i)
	}
	slices.SortFunc(all, set.compare)
	return all
}
