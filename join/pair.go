package join

import (
	"iter"
	"slices"
	"strings"

	"cippus/api"
	"cippus/basics"
)

// pair is a heap of which the piece b is held to the right of the piece a, with a shift.
type pair struct {
	api.Heap
	a, b, shift int
}

// pairs hands out two pieces with each shift with which strips of them lie side by side, ascending.
func pairs(h api.Heap, a, b int) iter.Seq[pair] {
	return func(yield func(pair) bool) {
		for shift := 1 - len(h.Pieces[b].Left); shift < len(h.Pieces[a].Right); shift++ {
			if !yield(pair{h, a, b, shift}) {
				return
			}
		}
	}
}

func (p pair) left() api.Piece { return p.Pieces[p.a] }

func (p pair) right() api.Piece { return p.Pieces[p.b] }

// refusal returns the first reason why the pieces cannot be joined; false if they may be.
func (p pair) refusal() (api.Witness, bool) {
	for _, reason := range []func() (api.Witness, bool){p.byThick, p.byStrips, p.byBreak, p.byLines, p.byLetters} {
		if witness, there := reason(); there {
			return witness, true
		}
	}
	return api.Witness{}, false
}

func (p pair) byThick() (api.Witness, bool) {
	return api.Witness{Reason: api.ByThick}, empty(basics.Common(p.left().Thick, p.right().Thick))
}

func (p pair) byStrips() (api.Witness, bool) {
	return api.Witness{Reason: api.ByStrips}, len(p.strips()) < p.Least
}

// byBreak looks at two strips at a time, which is enough: if each two of some spans have a number in common, all of them have.
func (p pair) byBreak() (api.Witness, bool) {
	strips := p.strips()
	for i, first := range strips {
		for _, second := range strips[i+1:] {
			if empty(basics.Common(p.distances(first), p.distances(second))) {
				return api.Witness{Reason: api.ByBreak, First: first, Second: second}, true
			}
		}
	}
	return api.Witness{}, false
}

func (p pair) byLines() (api.Witness, bool) {
	return api.Witness{Reason: api.ByLines}, len(p.steps()) == 0
}

func (p pair) byLetters() (api.Witness, bool) {
	steps := p.steps()
	if len(steps) == 0 || slices.ContainsFunc(steps, p.spelt) {
		return api.Witness{}, false
	}
	first, _ := p.misspelt(steps[0])
	return api.Witness{Reason: api.ByLetters, First: first, Second: first + steps[0]}, true
}

// strips returns the strips of the left piece that have one of the right piece beside them. A shift may be any number: where the difference wraps round, it is far from all strips, too.
func (p pair) strips() []int {
	var list []int
	for strip := range p.left().Right {
		if !basics.Outside(strip-p.shift, 0, len(p.right().Left)-1) {
			list = append(list, strip)
		}
	}
	return list
}

// distances returns the distances that a strip of the left piece allows, together with that beside it.
func (p pair) distances(strip int) api.Span {
	reach, begin := p.left().Right[strip], p.right().Left[strip-p.shift]
	return api.Span{Low: reach.Low - begin.High, High: reach.High - begin.Low + p.Loss}
}

// step returns the step if the first lines stand in these strips; false if the lines are not level.
func (p pair) step(first, second int) (int, bool) {
	apart := first - second - p.shift
	return apart / p.Pitch, apart%p.Pitch == 0
}

// steps returns all steps that there are, whatever the letters say, ascending.
func (p pair) steps() []int {
	var list []int
	for first := range within(p.left().Base) {
		for second := range within(p.right().Base) {
			if step, level := p.step(first, second); level {
				list = append(list, step)
			}
		}
	}
	slices.Sort(list)
	return slices.Compact(list)
}

// misspelt returns the first line of the left piece whose half contradicts that of the line that is level with it; false if there is none.
func (p pair) misspelt(step int) (int, bool) {
	begins := p.right().Begins
	for line, ends := range p.left().Ends {
		other := line + step
		if !basics.Outside(other, 0, len(begins)-1) && !match(ends, begins[other]) {
			return line, true
		}
	}
	return 0, false
}

// spelt reports whether all halves that are level make letters, or are both empty.
func (p pair) spelt(step int) bool {
	_, contradicted := p.misspelt(step)
	return !contradicted
}

// match reports whether the halves of a line may be halves of one letter, or of none.
func match(ends, begins string) bool {
	for _, letter := range ends {
		if strings.ContainsRune(begins, letter) {
			return true
		}
	}
	return ends == "" && begins == ""
}

// within hands out the numbers of a span, ascending.
func within(s api.Span) iter.Seq[int] {
	return func(yield func(int) bool) {
		for n := s.Low; n <= s.High; n++ {
			if !yield(n) {
				return
			}
		}
	}
}

func empty(s api.Span) bool { return s.Low > s.High }
