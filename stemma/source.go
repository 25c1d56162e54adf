package stemma

import (
	"iter"

	"cippus/api"
)

// stone is the source of a copy that was made from the stone itself; other sources are numbers of copies.
const stone = -1

// sources are the sources of all copies. They are 0 where the tradition has no copy.
type sources [api.MaxCopies]int

// descents hands out from what all copies may have been made, as far as the copies alone tell it.
func descents(l []api.Copy) iter.Seq[sources] {
	return func(yield func(sources) bool) {
		var from sources
		var next func(i int) bool
		next = func(i int) bool {
			if i == len(l) {
				return yield(from)
			}
			for source := stone; source < i; source++ {
				from[i] = source
				if may(l, i, source) && !next(i+1) {
					return false
				}
			}
			return true
		}
		next(0)
	}
}

// may reports whether a copy may have been made from that source, whatever the stone has.
func may(l []api.Copy, i, source int) bool {
	if source == stone {
		return l[i].Saw
	}
	return differ(l[i], l[source]) <= l[i].Errors
}

// differ returns at how many places two copies have not the same letter.
func differ(c, d api.Copy) int {
	places := 0
	for place := range len(c.Text) {
		if c.Text[place] != d.Text[place] {
			places++
		}
	}
	return places
}

// among returns how many errors there are in the copies of copies.
func (s sources) among(l []api.Copy) int {
	errors := 0
	for i, c := range l {
		if s[i] != stone {
			errors += differ(c, l[s[i]])
		}
	}
	return errors
}

// depends reports whether one copy depends on another one.
func (s sources) depends(a, b int) bool {
	for source := s[a]; source != stone; source = s[source] {
		if source == b {
			return true
		}
	}
	return false
}
