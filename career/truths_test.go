package career

import (
	"math/rand"
	"slices"
	"sync"

	"cippus/api"
)

func to(low, high int) api.Span { return api.Span{Low: low, High: high} }

// held is a record of a man who held an office, or was seen.
func held(man, office, town, low, high int) api.Record {
	return api.Record{Man: man, Office: office, Town: town, When: to(low, high)}
}

func kin(man, child int) api.Record { return api.Record{Kin: true, Man: man, Child: child} }

// example is the roll R of the chapter.
func example() api.Roll {
	return api.Roll{
		Offices: []api.Office{{Age: 25, Again: 5}, {Age: 30, Gap: 3, Again: 10}},
		Life:    90,
		Parents: to(15, 60),
		Far:     [][]bool{{false, true}, {true, false}},
		Men:     []api.Man{{Name: 4, Born: to(-100, -60), Died: to(-60, 0)}, {Name: 4, Born: to(-70, -30), Died: to(-40, 20)}},
		Records: []api.Record{held(0, 0, 0, -50, -45), held(0, 1, 1, -48, -40), held(1, 0, 1, -20, -15), kin(0, 1)},
	}
}

// with returns the roll R with a change.
func with(change func(r *api.Roll)) api.Roll {
	r := example()
	change(&r)
	return r
}

// recorded returns the roll R with other records.
func recorded(records ...api.Record) api.Roll {
	return with(func(r *api.Roll) { r.Records = records })
}

// apartAll tells that of so many towns each is far from each other one.
func apartAll(towns int) [][]bool {
	far := make([][]bool, towns)
	for town := range far {
		far[town] = make([]bool, towns)
		for other := range towns {
			far[town][other] = town != other
		}
	}
	return far
}

// cloned returns a roll that shares no memory with r.
func cloned(r api.Roll) api.Roll {
	r.Offices, r.Far, r.Men, r.Records = slices.Clone(r.Offices), slices.Clone(r.Far), slices.Clone(r.Men), slices.Clone(r.Records)
	for town := range r.Far {
		r.Far[town] = slices.Clone(r.Far[town])
	}
	return r
}

// more returns the roll with one record more.
func more(r api.Roll, rec api.Record) api.Roll {
	r.Records = append(slices.Clone(r.Records), rec)
	return r
}

// truth is one way in which all can be: years of birth, of death, and of records (0 for one of kin).
type truth struct{ born, died, when []int }

// possible reports whether a truth, as far as it goes, is one, as the chapter says when it is. One man is whoever is the same one in as.
func possible(r api.Roll, as []int, w truth) bool {
	for man := range w.born {
		for other := range man {
			if as[man] == as[other] && w.born[man] != w.born[other] {
				return false
			}
		}
	}
	for man, died := range w.died {
		if died < w.born[man] || died > w.born[man]+r.Life {
			return false
		}
		for other := range man {
			if as[man] == as[other] && died != w.died[other] {
				return false
			}
		}
	}
	for i := range w.when {
		if !recordPossible(r, as, w, i) {
			return false
		}
	}
	return true
}

// recordPossible looks at a record, and at those before it.
func recordPossible(r api.Roll, as []int, w truth, i int) bool {
	rec, year := r.Records[i], w.when[i]
	if rec.Kin {
		age := w.born[rec.Child] - w.born[rec.Man]
		return age >= r.Parents.Low && age <= r.Parents.High && w.born[rec.Child] <= w.died[rec.Man]+1
	}
	if year < w.born[rec.Man] || year > w.died[rec.Man] || rec.Office >= 0 && year-w.born[rec.Man] < r.Offices[rec.Office].Age {
		return false
	}
	for k, other := range r.Records[:i] {
		if other.Kin || as[other.Man] != as[rec.Man] {
			continue
		}
		if r.Far[rec.Town][other.Town] && year == w.when[k] || !officesPossible(r, rec.Office, year, other.Office, w.when[k]) {
			return false
		}
	}
	return true
}

// officesPossible looks at two offices that one man held.
func officesPossible(r api.Roll, a, year, b, other int) bool {
	switch {
	case a < 0 || b < 0:
		return true
	case a > b:
		return year-other >= r.Offices[a].Gap
	case a < b:
		return other-year >= r.Offices[b].Gap
	}
	return year == other || max(year, other)-min(year, other) >= r.Offices[a].Again
}

// nobody says that no two men are one.
func nobody(r api.Roll) []int {
	var as []int
	for man := range r.Men {
		as = append(as, man)
	}
	return as
}

// eachTruth shows all truths, until found returns false.
func eachTruth(r api.Roll, as []int, found func(w truth) bool) bool {
	var w truth
	var next func() bool
	try := func(list *[]int, years api.Span) bool {
		for year := years.Low; year <= years.High; year++ {
			*list = append(*list, year)
			goOn := !possible(r, as, w) || next()
			*list = (*list)[:len(*list)-1]
			if !goOn {
				return false
			}
		}
		return true
	}
	next = func() bool {
		switch {
		case len(w.born) < len(r.Men):
			return try(&w.born, r.Men[len(w.born)].Born)
		case len(w.died) < len(r.Men):
			return try(&w.died, r.Men[len(w.died)].Died)
		case len(w.when) < len(r.Records):
			return try(&w.when, r.Records[len(w.when)].When)
		}
		return found(w)
	}
	return next()
}

// there reports whether there is a truth.
func there(r api.Roll, as []int) bool {
	return !eachTruth(r, as, func(truth) bool { return false })
}

// lives is between which years all is.
type lives struct{ born, died, when []api.Span }

// spread returns the spans that have the years of a list, too.
func spread(spans []api.Span, list []int, first bool) []api.Span {
	if first {
		spans = make([]api.Span, len(list))
	}
	for i, year := range list {
		if first {
			spans[i] = to(year, year)
		}
		spans[i] = to(min(spans[i].Low, year), max(spans[i].High, year))
	}
	return spans
}

// small is a roll of few years, whether it may be, and between which years all is in its truths.
type small struct {
	r   api.Roll
	may bool
	all lives
}

func smallOf(r api.Roll) small {
	s := small{r: r}
	eachTruth(r, nobody(r), func(w truth) bool {
		s.all.born = spread(s.all.born, w.born, !s.may)
		s.all.died = spread(s.all.died, w.died, !s.may)
		s.all.when = spread(s.all.when, w.when, !s.may)
		s.may = true
		return true
	})
	return s
}

// one returns whether two men may be one.
func (s small) one(a, b int) bool {
	as := nobody(s.r)
	as[b] = a
	return s.r.Men[a].Name == s.r.Men[b].Name && there(s.r, as)
}

// wrong returns what Wrong has to, by all lists of records; false if there is no such list.
func (s small) wrong() ([]int, bool) {
	var best []int
	found := false
	for set := range 1 << len(s.r.Records) {
		var list []int
		for i := range s.r.Records {
			if set>>i&1 == 1 {
				list = append(list, i)
			}
		}
		better := !found || len(list) < len(best) || len(list) == len(best) && slices.Compare(list, best) < 0
		if better && there(left(s.r, list), nobody(s.r)) {
			best, found = list, true
		}
	}
	return best, found
}

// left returns the roll without some records.
func left(r api.Roll, wrong []int) api.Roll {
	r = cloned(r)
	for _, i := range slices.Backward(wrong) {
		r.Records = slices.Delete(r.Records, i, i+1)
	}
	return r
}

// near returns a span of at most four years about a year, within the limits.
func near(r *rand.Rand, year int) api.Span {
	low := max(-api.MaxYear, min(api.MaxYear, year-r.Intn(3)))
	return to(low, min(api.MaxYear, low+r.Intn(4)))
}

// smallRoll returns a roll of up to three men and five records near a year.
func smallRoll(r *rand.Rand, year int) api.Roll {
	x := api.Roll{Life: 4 + r.Intn(8), Parents: to(1+r.Intn(3), 3+r.Intn(4)), Far: apartAll(1 + r.Intn(4))}
	if towns := len(x.Far); r.Intn(3) == 0 {
		a, b := r.Intn(towns), r.Intn(towns)
		x.Far[a][b], x.Far[b][a] = false, false
	}
	for range r.Intn(4) {
		x.Offices = append(x.Offices, api.Office{Age: r.Intn(5), Gap: r.Intn(4), Again: 1 + r.Intn(4)})
	}
	for range 1 + r.Intn(3) {
		birth := year + r.Intn(6)
		x.Men = append(x.Men, api.Man{Name: r.Intn(2), Born: near(r, birth), Died: near(r, birth+4+r.Intn(6))})
	}
	for range r.Intn(6) {
		man, child := r.Intn(len(x.Men)), r.Intn(len(x.Men))
		if man != child && r.Intn(3) == 0 {
			x.Records = append(x.Records, kin(man, child))
			continue
		}
		when := near(r, x.Men[man].Born.Low+2+r.Intn(8))
		x.Records = append(x.Records, held(man, r.Intn(len(x.Offices)+1)-1, r.Intn(len(x.Far)), when.Low, when.High))
	}
	return x
}

// smalls are rolls near the year 0, and near both ends of the years; some may be, and some may not.
var smalls = sync.OnceValue(func() []small {
	r := rand.New(rand.NewSource(6))
	list := make([]small, 4000)
	var all sync.WaitGroup
	for i := range list {
		x := smallRoll(r, []int{0, 0, -7, -200, 2990, -3000}[i%6])
		all.Go(func() { list[i] = smallOf(x) })
	}
	all.Wait()
	return list
})

// wider returns a span with a year of which all years are within the limits.
func wider(r *rand.Rand, year, width int) api.Span {
	return to(max(-api.MaxYear, year-r.Intn(width)), min(api.MaxYear, year+r.Intn(width)))
}

// trueRoll returns a roll with up to six men and eight records, and a truth of it.
func trueRoll(r *rand.Rand) (api.Roll, truth) {
	x, w := api.Roll{Life: 40 + r.Intn(61), Parents: to(1+r.Intn(20), 30+r.Intn(71)), Far: apartAll(1 + r.Intn(4))}, truth{}
	for range r.Intn(api.MaxOffices + 1) {
		x.Offices = append(x.Offices, api.Office{Age: r.Intn(30), Gap: r.Intn(5), Again: 1 + r.Intn(12)})
	}
	begin := []int{-3000, -300, -20, 0, 2800}[r.Intn(5)]
	width := 1 + r.Intn(40)
	for range 1 + r.Intn(api.MaxMen) {
		birth := begin + r.Intn(100)
		death := birth + r.Intn(x.Life+1)
		w.born, w.died = append(w.born, birth), append(w.died, death)
		x.Men = append(x.Men, api.Man{Name: r.Intn(3), Born: wider(r, birth, width), Died: wider(r, death, width)})
	}
	for range r.Intn(20) {
		if rec, year, ok := trueRecord(r, x, w, width); ok && len(x.Records) < api.MaxRecords {
			x.Records, w.when = append(x.Records, rec), append(w.when, year)
		}
	}
	return x, w
}

// trueRecord returns a record that is right, and its year; false if what it wanted to say is not.
func trueRecord(r *rand.Rand, x api.Roll, w truth, width int) (api.Record, int, bool) {
	man, child := r.Intn(len(x.Men)), r.Intn(len(x.Men))
	year := w.born[man] + r.Intn(w.died[man]-w.born[man]+1)
	when := wider(r, year, width)
	rec := held(man, r.Intn(len(x.Offices)+1)-1, r.Intn(len(x.Far)), when.Low, when.High)
	if man != child && r.Intn(3) == 0 {
		rec, year = kin(man, child), 0
	}
	w.when = append(slices.Clone(w.when), year)
	x = more(x, rec)
	return rec, year, recordPossible(x, nobody(x), w, len(x.Records)-1)
}
