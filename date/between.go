package date

import (
	"iter"

	"cippus/api"
)

// The points in time of a dating: the year 0, the years of the stones, and the first years of the eras.
const (
	nought     = 0
	firstStone = 1
	firstEra   = firstStone + api.MaxStones
	points     = firstEra + api.MaxEras
)

// limit says that a point is at most so many years after another one.
type limit struct{ from, to, years int }

// way is a way in which a note can be right: the limits of how many years a point is after another one, and of how many years the other one is after it.
type way [2]limit

// apart is the way in which a point is so many years after another one.
func apart(from, to int, years api.Span) way {
	return way{{from, to, years.High}, {to, from, -years.Low}}
}

// between has, for any two points, how many years the second one is after the first one at most. It has all that limits say together, by way of other points, too: so each of its numbers is reached in a truth.
type between [points][points]int

// unsaid is how many years may lie between points if no note says anything.
func unsaid(d api.Dating) between {
	var spans [points]api.Span
	for point := firstStone; point < points; point++ {
		spans[point] = api.Span{Low: -api.MaxYear, High: api.MaxYear}
	}
	copy(spans[firstEra:], d.Eras)
	var b between
	for from, first := range spans {
		for to, second := range spans {
			if from != to {
				b[from][to] = second.High - first.Low
			}
		}
	}
	return b
}

// refuses reports whether the point is more years after the other one, at least, than a limit says.
func (b between) refuses(l limit) bool { return b[l.to][l.from]+l.years < 0 }

// narrowed returns what is left with a limit that it does not refuse.
func (b between) narrowed(l limit) between {
	next := b
	for from := range b {
		for to := range b[from] {
			next[from][to] = min(b[from][to], b[from][l.from]+l.years+b[l.to][to])
		}
	}
	return next
}

// span is how many years a point is after another one.
func (b between) span(from, to int) api.Span {
	return api.Span{Low: -b[to][from], High: b[from][to]}
}

// choices hands out what is left if all notes are right, for each choice of ways for which something is.
func choices(d api.Dating, notes []note) iter.Seq[between] {
	return func(yield func(between) bool) { choose(unsaid(d), notes, yield) }
}

func choose(known between, notes []note, yield func(between) bool) bool {
	if len(notes) == 0 {
		return yield(known)
	}
ways:
	for w := range notes[0].ways() {
		next := known
		for _, l := range w {
			if next.refuses(l) {
				continue ways
			}
			next = next.narrowed(l)
		}
		if !choose(next, notes[1:], yield) {
			return false
		}
		if next == known {
			break // the note was right already, so that none of its other ways can be
		}
	}
	return true
}
