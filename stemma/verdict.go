package stemma

import (
	"cippus/api"
	"cippus/basics"
)

// truth is all truths that have the same sources, and how many errors there are at least in one of them.
type truth struct {
	from   sources
	errors int
}

// told is what is told of a tradition: its truths, of which there is one at least, and the letters of the stone.
type told struct {
	truths []truth
	found  stones
}

// tell returns what is told of a tradition, or the error of Sources.
func tell(l []api.Copy) (told, api.Errno) {
	if e := Check(l); e != api.OK {
		return told{}, e
	}
	var t told
	errors := search(l, &t.found)
	for from := range descents(l) {
		if n := errors(whole(l, from)); n != never {
			t.truths = append(t.truths, truth{from, n + from.among(l)})
		}
	}
	if len(t.truths) == 0 {
		return told{}, api.ErrClash
	}
	return t, api.OK
}

// question asks something of the sources of all copies.
type question func(sources) bool

// counts are in how many truths each of some questions is so. There are no more of them than a copy has sources.
type counts [api.MaxCopies]int

func (c *counts) add(i int) { c[i]++ }

func (c *counts) of(i int) int { return c[i] }

// tally has the counts of so many truths.
type tally struct {
	counts
	truths int
}

// verdict returns what all truths together say of a question.
func (t *tally) verdict(i int) int {
	return basics.Verdict(t.of(i) == t.truths, t.of(i) > 0)
}

// verdicts returns the verdict on each question.
func (t told) verdicts(asked ...question) []int {
	count := tally{truths: len(t.truths)}
	var list []int
	for i, so := range asked {
		for _, w := range t.truths {
			if so(w.from) {
				count.add(i)
			}
		}
		list = append(list, count.verdict(i))
	}
	return list
}
