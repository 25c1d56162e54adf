package career

import (
	"cmp"
	"slices"

	"cippus/api"
)

// known is between which years each point is. A point that the roll does not have is in the year 0.
type known [points]api.Span

// years are one year of each point.
type years [points]int

// said is what a roll says of each point by itself.
func said(r api.Roll) known {
	var k known
	for man, m := range r.Men {
		k[firstBirth+man], k[firstDeath+man] = m.Born, m.Died
	}
	for i, rec := range r.Records {
		k[firstRecord+i] = rec.When
	}
	return k
}

// looked is what is left after a look at each of some ways.
func (k known) looked(ways []way) known {
	for _, w := range ways {
		from, to := &k[w.from], &k[w.to]
		to.Low, to.High = max(to.Low, from.Low+w.years.Low), min(to.High, from.High+w.years.High)
		from.Low, from.High = max(from.Low, to.Low-w.years.High), min(from.High, to.High-w.years.Low)
	}
	return k
}

// narrowed is what is left after looks at all ways until nothing changes; false if nothing is left. The earliest years of all points then keep to all ways together, and so do the latest ones.
func (k known) narrowed(ways []way) (known, bool) {
	// There are fewer steps from any point to another one than there are points: what goes on changing for longer goes round in a circle, for ever.
	for range points {
		next := k.looked(ways)
		if next == k {
			return k, !k.empty()
		}
		k = next
	}
	return known{}, false
}

func (k known) empty() bool {
	return slices.ContainsFunc(k[:], func(s api.Span) bool { return s.Low > s.High })
}

// extremes returns the earliest years of all points, and the latest ones.
func (k known) extremes() (earliest, latest years) {
	for point, s := range k {
		earliest[point], latest[point] = s.Low, s.High
	}
	return earliest, latest
}

// just is what is known if some years alone are right.
func just(right years) known {
	var k known
	for point, year := range right {
		k[point] = api.Span{Low: year, High: year}
	}
	return k
}

// with is what is known if some years are right, too.
func (k known) with(right years) known {
	for point, year := range right {
		k[point].Low, k[point].High = ends(k[point].Low, k[point].High, year)
	}
	return k
}

// ends returns the earliest and the latest one of some years.
func ends[T cmp.Ordered](years ...T) (earliest, latest T) {
	return slices.Min(years), slices.Max(years)
}

// breaks reports whether years do not keep to a rule.
func (y years) breaks(one rule) bool { return !one.allows(y[one.to] - y[one.from]) }

// split returns the ways of all rules that have just one, and the rules that have several.
func split(r api.Roll) (sure []way, choices []rule) {
	for one := range rules(r) {
		if len(one.years) == 1 {
			sure = append(sure, one.ways()...)
		} else {
			choices = append(choices, one)
		}
	}
	return sure, choices
}

// told returns between which years each point is in the truths of a roll; false if there is none. The earliest years that are left are a truth, and the latest ones, unless they break a rule that has several ways: of these, one then has to be gone first.
func told(r api.Roll) (known, bool) {
	sure, choices := split(r)
	whole, found := known{}, false
	var search func(k known, ways []way)
	search = func(k known, ways []way) {
		k, may := k.narrowed(ways)
		earliest, latest := k.extremes()
		if !may || found && whole.with(earliest).with(latest) == whole {
			return // there is no truth here, or none that tells more
		}
		var out []way
		for _, y := range []years{latest, earliest} {
			if broken := slices.IndexFunc(choices, y.breaks); broken >= 0 {
				out = choices[broken].ways()
				continue
			}
			if !found {
				whole, found = just(y), true
			}
			whole = whole.with(y)
		}
		for _, w := range out {
			search(k, append(ways[:len(ways):len(ways)], w))
		}
	}
	search(said(r), sure)
	return whole, found
}
