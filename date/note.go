package date

import (
	"iter"

	"cippus/api"
)

// note is a note of a dating, by its kind.
type note interface {
	// check returns the first error of what its kind demands.
	check(d api.Dating) api.Errno
	// ways hands out all ways in which it can be right, no two of which can be so together.
	ways() iter.Seq[way]
}

// The notes of each kind.
type (
	inYears api.Note
	within  api.Note
	inEra   api.Note
	after   api.Note
)

func noteOf(n api.Note) note {
	switch n.Kind {
	case api.NoteYears:
		return inYears(n)
	case api.NoteSpan:
		return within(n)
	case api.NoteEra:
		return inEra(n)
	}
	return after(n)
}

func (n inYears) ways() iter.Seq[way] {
	return func(yield func(way) bool) {
		for _, year := range n.Years {
			if !yield(apart(nought, firstStone+n.Stone, api.Span{Low: year, High: year})) {
				return
			}
		}
	}
}

func (n within) ways() iter.Seq[way] {
	return just(apart(nought, firstStone+n.Stone, n.Span))
}

// ways takes one from the years of an era: the first one is the year 1.
func (n inEra) ways() iter.Seq[way] {
	return just(apart(firstEra+n.Other, firstStone+n.Stone, api.Span{Low: n.Span.Low - 1, High: n.Span.High - 1}))
}

func (n after) ways() iter.Seq[way] {
	return just(apart(firstStone+n.Other, firstStone+n.Stone, n.Span))
}

// just hands out the only way.
func just(w way) iter.Seq[way] {
	return func(yield func(way) bool) { yield(w) }
}
