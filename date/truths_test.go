package date

import (
	"math/rand"
	"slices"
	"sync"

	"cippus/api"
)

func to(low, high int) api.Span { return api.Span{Low: low, High: high} }

func yearsNote(stone int, years ...int) api.Note {
	return api.Note{Kind: api.NoteYears, Stone: stone, Years: years}
}

func spanNote(stone, low, high int) api.Note {
	return api.Note{Kind: api.NoteSpan, Stone: stone, Span: to(low, high)}
}

func eraNote(stone, era, low, high int) api.Note {
	return api.Note{Kind: api.NoteEra, Stone: stone, Other: era, Span: to(low, high)}
}

func afterNote(stone, other, low, high int) api.Note {
	return api.Note{Kind: api.NoteAfter, Stone: stone, Other: other, Span: to(low, high)}
}

// example is the dating D of the chapter.
func example() api.Dating {
	return api.Dating{Stones: 3, Eras: []api.Span{to(-312, -311)}, Notes: []api.Note{eraNote(0, 0, 100, 100), yearsNote(1, -215, -207), afterNote(1, 0, 1, 10), spanNote(2, -200, -150), afterNote(2, 1, 0, 30)}}
}

// with returns the dating D with a change.
func with(change func(d *api.Dating)) api.Dating {
	d := example()
	change(&d)
	return d
}

// noted returns the dating D with another note in a place.
func noted(i int, n api.Note) api.Dating { return with(func(d *api.Dating) { d.Notes[i] = n }) }

// plain returns a dating without eras.
func plain(stones int, notes ...api.Note) api.Dating {
	return api.Dating{Stones: stones, Notes: notes}
}

// eras returns a dating with eras.
func eras(stones int, firsts []api.Span, notes ...api.Note) api.Dating {
	return api.Dating{Stones: stones, Eras: firsts, Notes: notes}
}

// more returns the dating with some notes more.
func more(d api.Dating, notes ...api.Note) api.Dating {
	d.Notes = append(slices.Clone(d.Notes), notes...)
	return d
}

// without returns the dating without some notes.
func without(d api.Dating, wrong []int) api.Dating {
	var left []api.Note
	for i, n := range d.Notes {
		if !slices.Contains(wrong, i) {
			left = append(left, n)
		}
	}
	d.Notes = left
	return d
}

// cloned returns a dating that shares no memory with d.
func cloned(d api.Dating) api.Dating {
	d.Eras, d.Notes = slices.Clone(d.Eras), slices.Clone(d.Notes)
	for i := range d.Notes {
		d.Notes[i].Years = slices.Clone(d.Notes[i].Years)
	}
	return d
}

// truth is one way in which all can be.
type truth struct{ stones, firsts []int }

// right reports whether a note is right, as the chapter says when it is.
func right(n api.Note, w truth) bool {
	year := w.stones[n.Stone]
	begin := 0
	switch n.Kind {
	case api.NoteYears:
		return slices.Contains(n.Years, year)
	case api.NoteEra:
		begin = w.firsts[n.Other] - 1 // the year 0 of the era
	case api.NoteAfter:
		begin = w.stones[n.Other]
	}
	for many := n.Span.Low; many <= n.Span.High; many++ {
		if begin+many == year {
			return true
		}
	}
	return false
}

// eachTruth shows all truths in which the stones are of years within a span, until found returns false.
func eachTruth(d api.Dating, years api.Span, found func(w truth) bool) bool {
	firsts, stones := []int{}, []int{}
	var next func() bool
	next = func() bool {
		switch {
		case len(firsts) < len(d.Eras):
			for first := d.Eras[len(firsts)].Low; first <= d.Eras[len(firsts)].High; first++ {
				firsts = append(firsts, first)
				goOn := next()
				firsts = firsts[:len(firsts)-1]
				if !goOn {
					return false
				}
			}
		case len(stones) < d.Stones:
			for year := years.Low; year <= years.High; year++ {
				stones = append(stones, year)
				goOn := !rightSoFar(d, truth{stones, firsts}) || next()
				stones = stones[:len(stones)-1]
				if !goOn {
					return false
				}
			}
		default:
			return found(truth{slices.Clone(stones), slices.Clone(firsts)})
		}
		return true
	}
	return next()
}

// rightSoFar reports whether all notes of the last stone that has a year are right, if no later stone is in them.
func rightSoFar(d api.Dating, w truth) bool {
	last := len(w.stones) - 1
	for _, n := range d.Notes {
		stones := []int{n.Stone}
		if n.Kind == api.NoteAfter {
			stones = append(stones, n.Other)
		}
		if slices.Max(stones) == last && !right(n, w) {
			return false
		}
	}
	return true
}

// small is a dating all of whose stones are of years within a span, if it may be, and all its truths.
type small struct {
	d      api.Dating
	years  api.Span
	truths []truth
}

// may reports whether there is a truth without some notes. What is said of a stone then is near, or it is free to be near: no more than 10 years lie between.
func (s small) may(wrong []int) bool {
	return !eachTruth(without(s.d, wrong), s.years, func(truth) bool { return false })
}

// wrong returns what Wrong has to, by all lists of notes: without any note, there is a truth.
func (s small) wrong() []int {
	best := everyOne(len(s.d.Notes))
	for set := range 1 << len(s.d.Notes) {
		var list []int
		for i := range s.d.Notes {
			if set>>i&1 == 1 {
				list = append(list, i)
			}
		}
		better := len(list) < len(best) || len(list) == len(best) && slices.Compare(list, best) < 0
		if better && s.may(list) {
			best = list
		}
	}
	return best
}

func everyOne(notes int) []int {
	var list []int
	for i := range notes {
		list = append(list, i)
	}
	return list
}

// valid returns the span between two numbers.
func valid(a, b int) api.Span { return to(min(a, b), max(a, b)) }

// smallDating returns a dating of up to four stones near a year: each of them has a note of its own, or one that binds it to a stone before.
func smallDating(r *rand.Rand, near int) api.Dating {
	clip := func(year int) int { return max(-api.MaxYear, min(api.MaxYear, year)) }
	d := api.Dating{Stones: 1 + r.Intn(4)}
	var begins []int
	for range r.Intn(3) {
		begins = append(begins, min([]int{0, 1, 50, 2000}[r.Intn(4)], near+api.MaxYear))
		first := near - begins[len(begins)-1]
		d.Eras = append(d.Eras, valid(clip(first+r.Intn(2)), clip(first-r.Intn(2))))
	}
	note := func(stone int) api.Note {
		switch kind := r.Intn(4); {
		case kind == 0:
			var list []int
			for range 1 + r.Intn(3) {
				list = append(list, clip(near+r.Intn(7)-3))
			}
			slices.Sort(list)
			return yearsNote(stone, slices.Compact(list)...)
		case kind == 1 && len(d.Eras) > 0:
			era := r.Intn(len(d.Eras))
			span := valid(max(1, begins[era]+r.Intn(4)-1), max(1, begins[era]+r.Intn(4)-1))
			return eraNote(stone, era, span.Low, span.High)
		case kind == 2 && stone > 0:
			span := valid(r.Intn(5)-2, r.Intn(5)-2)
			return afterNote(stone, r.Intn(stone), span.Low, span.High)
		}
		span := valid(clip(near+r.Intn(7)-3), clip(near+r.Intn(7)-3))
		return spanNote(stone, span.Low, span.High)
	}
	for stone := range d.Stones {
		d.Notes = append(d.Notes, note(stone))
	}
	for range r.Intn(5) {
		stone, other := r.Intn(d.Stones), r.Intn(d.Stones)
		if n := note(stone); stone < other && r.Intn(2) == 0 {
			span := valid(r.Intn(5)-2, r.Intn(5)-2)
			d.Notes = append(d.Notes, afterNote(stone, other, span.Low, span.High))
		} else {
			d.Notes = append(d.Notes, n)
		}
	}
	r.Shuffle(len(d.Notes), func(i, k int) { d.Notes[i], d.Notes[k] = d.Notes[k], d.Notes[i] })
	return d
}

// smalls are datings near the year 0, and near both ends of the years; some may be, and some may not.
var smalls = sync.OnceValue(func() []small {
	r := rand.New(rand.NewSource(5))
	var list []small
	for i := range 1200 {
		near := []int{0, 0, 7, -40, 2997, -2998}[i%6]
		s := small{d: smallDating(r, near), years: to(max(near-13, -api.MaxYear), min(near+13, api.MaxYear))}
		eachTruth(s.d, s.years, func(w truth) bool {
			s.truths = append(s.truths, w)
			return true
		})
		list = append(list, s)
	}
	return list
})

// trueDating returns a dating with up to six stones and eight notes of all years, and a truth of it.
func trueDating(r *rand.Rand) (api.Dating, truth) {
	d, w := api.Dating{Stones: 1 + r.Intn(api.MaxStones)}, truth{}
	any := func(width int) int {
		return max(-api.MaxYear, min(api.MaxYear, r.Intn(2*width+1)-width))
	}
	width := []int{5, 60, 500, 3100}[r.Intn(4)]
	for range d.Stones {
		w.stones = append(w.stones, any(width))
	}
	for range r.Intn(api.MaxEras + 1) {
		first := any(width)
		w.firsts = append(w.firsts, first)
		d.Eras = append(d.Eras, to(max(-api.MaxYear, first-r.Intn(3)), min(api.MaxYear, first+r.Intn(3))))
	}
	for range r.Intn(api.MaxNotes + 1) {
		if n, ok := trueNote(r, d, w); ok {
			d.Notes = append(d.Notes, n)
		}
	}
	return d, w
}

// trueNote returns a note that is right; false if it would go beyond the limits.
func trueNote(r *rand.Rand, d api.Dating, w truth) (api.Note, bool) {
	stone := r.Intn(d.Stones)
	year := w.stones[stone]
	less, greater := r.Intn(12), r.Intn(12)
	kept := func(n, low int) api.Span { return to(max(low, n-less), min(api.MaxYear, n+greater)) }
	switch r.Intn(4) {
	case 0:
		list := []int{year, max(-api.MaxYear, year-less), min(api.MaxYear, year+greater)}
		slices.Sort(list)
		return yearsNote(stone, slices.Compact(list)...), true
	case 1:
		if len(d.Eras) == 0 {
			break
		}
		era := r.Intn(len(d.Eras))
		n := year - w.firsts[era] + 1
		span := kept(n, 1)
		return eraNote(stone, era, span.Low, span.High), n >= 1 && n <= api.MaxYear
	case 2:
		other := r.Intn(d.Stones)
		n := year - w.stones[other]
		span := kept(n, -api.MaxYear)
		return afterNote(stone, other, span.Low, span.High), stone != other && n >= -api.MaxYear && n <= api.MaxYear
	}
	span := kept(year, -api.MaxYear)
	return spanNote(stone, span.Low, span.High), true
}
