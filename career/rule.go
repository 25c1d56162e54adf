package career

import (
	"iter"
	"slices"

	"cippus/api"
	"cippus/basics"
)

// The points in time of a roll: the years in which men are born and die, and those of the records. A record of kin has none of its own.
const (
	firstBirth  = 0
	firstDeath  = firstBirth + api.MaxMen
	firstRecord = firstDeath + api.MaxMen
	points      = firstRecord + api.MaxRecords
)

// endless is more years than may lie between any two points.
const endless = 2*api.MaxYear + 1

// rule says that a point is some years after another one (before it, if that is below 0), and as many as one of some spans says.
type rule struct {
	from, to int
	years    []api.Span
}

// way is a way in which a rule is kept.
type way struct {
	from, to int
	years    api.Span
}

func (one rule) ways() []way {
	var list []way
	for _, years := range one.years {
		list = append(list, way{one.from, one.to, years})
	}
	return list
}

// allows reports whether so many years may lie between the points.
func (one rule) allows(years int) bool {
	return slices.ContainsFunc(one.years, func(s api.Span) bool { return !basics.Outside(years, s.Low, s.High) })
}

// after is the rule that a point is as many years after another one as a span says.
func after(from, to int, years api.Span) rule { return rule{from, to, []api.Span{years}} }

// least are so many years, or more.
func least(years int) api.Span { return api.Span{Low: years, High: endless} }

// apart are so many years, or more, in either direction.
func apart(years int) []api.Span { return []api.Span{{Low: -endless, High: -years}, least(years)} }

// rules hands out all rules to which the years of a roll keep.
func rules(r api.Roll) iter.Seq[rule] {
	return func(yield func(rule) bool) {
		for man := range r.Men {
			if !yield(after(firstBirth+man, firstDeath+man, api.Span{Low: 0, High: r.Life})) {
				return
			}
		}
		for i := range r.Records {
			for _, one := range ofRecord(r, i) {
				if !yield(one) {
					return
				}
			}
		}
	}
}

// ofRecord returns the rules to which a record keeps, by itself and with the records before it.
func ofRecord(r api.Roll, i int) []rule {
	rec := r.Records[i]
	birth, death, year := firstBirth+rec.Man, firstDeath+rec.Man, firstRecord+i
	if rec.Kin {
		child := firstBirth + rec.Child
		return []rule{after(birth, child, r.Parents), after(child, death, least(-1))}
	}
	age := 0
	if rec.Office != none {
		age = r.Offices[rec.Office].Age
	}
	list := []rule{after(birth, year, least(age)), after(year, death, least(0))}
	for before, other := range r.Records[:i] {
		if !other.Kin && other.Man == rec.Man {
			list = append(list, ofTwo(r, before, i)...)
		}
	}
	return list
}

// ofTwo returns the rules to which two records of one man keep together.
func ofTwo(r api.Roll, i, k int) []rule {
	if r.Records[i].Office > r.Records[k].Office {
		i, k = k, i
	}
	low, high := r.Records[i], r.Records[k]
	from, to := firstRecord+i, firstRecord+k
	var list []rule
	if r.Far[low.Town][high.Town] {
		list = append(list, rule{from, to, apart(1)})
	}
	switch {
	case low.Office == none:
		return list
	case low.Office < high.Office:
		return append(list, after(from, to, least(r.Offices[high.Office].Gap)))
	}
	return append(list, rule{from, to, append(apart(r.Offices[high.Office].Again), api.Span{})})
}
