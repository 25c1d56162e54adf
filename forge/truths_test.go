package forge

import (
	"math/rand"
	"slices"
	"sync"

	"cippus/api"
)

func to(low, high int) api.Span { return api.Span{Low: low, High: high} }

// trait is a trait by the numbers of From, of Until and of Known.
func trait(n ...int) api.Trait {
	return api.Trait{From: to(n[0], n[1]), Until: to(n[2], n[3]), Known: to(n[4], n[5])}
}

// on is a case by its shop, the numbers of Cut and of Seen, and what it shows.
func on(shop, low, high, first, last int, shows ...int) api.Case {
	return api.Case{Shows: shows, Cut: to(low, high), Seen: to(first, last), Shop: shop}
}

// example is the dossier D of the chapter.
func example() api.Dossier {
	return api.Dossier{
		Begin: 1400, Most: 1, Shops: 2,
		Traits: []api.Trait{trait(100, 120, 300, 350, 1500, 1520), trait(50, 60, 90, 95, 1700, 1750), trait(0, 10, 400, 400, 1400, 1450)},
		Cases:  []api.Case{on(0, 80, 200, 1710, 1720, 0, 1), on(1, 150, 200, 1600, 1610, 0, 2), on(ground, 92, 100, 1650, 1680, 1, 2), on(0, 90, 110, 1510, 1515, 0)},
	}
}

// with returns the dossier D with a change.
func with(change func(d *api.Dossier)) api.Dossier {
	d := example()
	change(&d)
	return d
}

// cloned returns a dossier that shares no memory with d.
func cloned(d api.Dossier) api.Dossier {
	d.Traits, d.Cases = slices.Clone(d.Traits), slices.Clone(d.Cases)
	for c := range d.Cases {
		d.Cases[c].Shows = slices.Clone(d.Cases[c].Shows)
	}
	return d
}

// truth is one way in which all can be: the first and the last year of each trait, the year from which on it was known, and of each case whether it is forged.
type truth struct {
	first, last, known []int
	forged             []bool
}

// possible reports whether a case may be forged, or genuine, with the traits of a truth, as the chapter says when it may: all years in which it was first seen, and cut or made, are gone through.
func (w truth) possible(d api.Dossier, c api.Case, forged bool) bool {
	for seen := c.Seen.Low; seen <= c.Seen.High; seen++ {
		if forged && w.made(d, c, seen) || !forged && w.cut(c, seen) {
			return true
		}
	}
	return false
}

func (w truth) made(d api.Dossier, c api.Case, seen int) bool {
	for year := d.Begin; year <= seen && c.Shop >= 0; year++ {
		if !slices.ContainsFunc(c.Shows, func(t int) bool { return year < w.known[t] }) {
			return true
		}
	}
	return false
}

func (w truth) cut(c api.Case, seen int) bool {
	for year := c.Cut.Low; year <= c.Cut.High; year++ {
		if year <= seen && !slices.ContainsFunc(c.Shows, func(t int) bool { return year < w.first[t] || year > w.last[t] }) {
			return true
		}
	}
	return false
}

// sellers returns the shops that forged, ascending.
func (w truth) sellers(d api.Dossier) []int {
	var list []int
	for c, forged := range w.forged {
		if forged {
			list = append(list, d.Cases[c].Shop)
		}
	}
	slices.Sort(list)
	return slices.Compact(list)
}

// eachTrait shows all years that traits may have.
func eachTrait(d api.Dossier, found func(w truth)) {
	var w truth
	var next func()
	next = func() {
		i := len(w.first)
		if i == len(d.Traits) {
			found(w)
			return
		}
		t := d.Traits[i]
		for first := t.From.Low; first <= t.From.High; first++ {
			for last := max(first, t.Until.Low); last <= t.Until.High; last++ {
				for known := t.Known.Low; known <= t.Known.High; known++ {
					w.first, w.last, w.known = append(w.first[:i], first), append(w.last[:i], last), append(w.known[:i], known)
					next()
				}
			}
		}
		w.first, w.last, w.known = w.first[:i], w.last[:i], w.known[:i]
	}
	next()
}

// eachTruth shows all truths that there would be if Most were great enough. A truth is the search's own: it changes afterwards.
func eachTruth(d api.Dossier, found func(w truth)) {
	eachTrait(d, func(w truth) {
		var next func()
		next = func() {
			c := len(w.forged)
			if c == len(d.Cases) {
				found(w)
				return
			}
			for _, forged := range []bool{false, true} {
				if w.possible(d, d.Cases[c], forged) {
					w.forged = append(w.forged[:c], forged)
					next()
				}
			}
			w.forged = w.forged[:c]
		}
		next()
	})
}

// whole is all that is said of a dossier that may be.
type whole struct {
	genuine, shops []int
	traits         []api.Trait
}

// small is a dossier of few years, whether it may be, what all of its truths say then, and all lists of shops that forged in a truth that there would be if Most were great enough.
type small struct {
	d     api.Dossier
	may   bool
	all   whole
	lists map[[api.MaxShops]bool][]int
}

// spread returns the span that has a year, too.
func spread(s api.Span, year int, first bool) api.Span {
	if first {
		return to(year, year)
	}
	return to(min(s.Low, year), max(s.High, year))
}

// counted returns the verdict on what is so in some of all truths.
func counted(some, all int) int {
	switch some {
	case all:
		return api.Yes
	case 0:
		return api.No
	}
	return api.Open
}

func smallOf(d api.Dossier) small {
	s := small{d: d, lists: map[[api.MaxShops]bool][]int{}}
	s.all.traits = make([]api.Trait, len(d.Traits))
	genuine, forging, truths := make([]int, len(d.Cases)), make([]int, d.Shops), 0
	eachTruth(d, func(w truth) {
		list := w.sellers(d)
		var key [api.MaxShops]bool
		for _, shop := range list {
			key[shop] = true
		}
		s.lists[key] = list
		if len(list) > d.Most {
			return
		}
		for i, t := range s.all.traits {
			s.all.traits[i] = api.Trait{From: spread(t.From, w.first[i], truths == 0), Until: spread(t.Until, w.last[i], truths == 0), Known: spread(t.Known, w.known[i], truths == 0)}
		}
		truths++
		for _, shop := range list {
			forging[shop]++
		}
		for c, forged := range w.forged {
			if !forged {
				genuine[c]++
			}
		}
	})
	if truths == 0 {
		s.all = whole{}
		return s
	}
	s.may = true
	for _, n := range genuine {
		s.all.genuine = append(s.all.genuine, counted(n, truths))
	}
	for _, n := range forging {
		s.all.shops = append(s.all.shops, counted(n, truths))
	}
	return s
}

// enough reports whether some shops can have sold all forged ones.
func (s small) enough(shops []int) bool {
	for _, list := range s.lists {
		if !slices.ContainsFunc(list, func(shop int) bool { return !slices.Contains(shops, shop) }) {
			return true
		}
	}
	return false
}

// fewest returns what Fewest has to, by all lists of shops; false if there is no such list. It returns, too, how many lists of that length there are.
func (s small) fewest() (best []int, many int, found bool) {
	for set := range 1 << s.d.Shops {
		var list []int
		for shop := range s.d.Shops {
			if set>>shop&1 == 1 {
				list = append(list, shop)
			}
		}
		switch {
		case !s.enough(list) || found && len(list) > len(best):
			continue
		case !found || len(list) < len(best):
			best, many, found = list, 0, true
		case slices.Compare(list, best) < 0:
			best = list
		}
		many++
	}
	return best, many, found
}

// clip returns a year that is within the limits.
func clip(year int) int { return max(-api.MaxYear, min(api.MaxYear, year)) }

// near returns a span of at most three years about a year, within the limits.
func near(r *rand.Rand, year int) api.Span {
	low := clip(year)
	return to(low, clip(low+r.Intn(3)))
}

// some returns some of so many numbers, ascending.
func some(r *rand.Rand, many int) []int {
	var list []int
	for i := range many {
		if r.Intn(2) == 0 {
			list = append(list, i)
		}
	}
	return list
}

// smallDossier returns a dossier of up to three traits and five cases near a year.
func smallDossier(r *rand.Rand, year int) api.Dossier {
	d := api.Dossier{Begin: clip(year + 8 + r.Intn(4)), Most: r.Intn(api.MaxShops + 1), Shops: r.Intn(api.MaxShops + 1)}
	for range r.Intn(4) {
		known := near(r, year+7+r.Intn(6))
		if r.Intn(3) == 0 { // it was not forgotten at all, or not for long
			known = near(r, year+r.Intn(12))
		}
		d.Traits = append(d.Traits, api.Trait{From: near(r, year+r.Intn(5)-1), Until: near(r, year+2+r.Intn(5)), Known: known})
	}
	for range 1 + r.Intn(5) {
		c := api.Case{Shows: some(r, len(d.Traits)), Cut: near(r, year+r.Intn(8)), Seen: near(r, year+6+r.Intn(7)), Shop: r.Intn(d.Shops+1) - 1}
		if r.Intn(5) == 0 {
			c.Seen = near(r, year+r.Intn(8))
		}
		d.Cases = append(d.Cases, c)
	}
	return d
}

// forgedDossier is a small dossier in which most cases were seen so late that they may be forged, and many claim years in which they cannot have been cut.
func forgedDossier(r *rand.Rand, year int) api.Dossier {
	d := smallDossier(r, year)
	d.Shops = 2 + r.Intn(api.MaxShops-1)
	for len(d.Cases) < 5 {
		d.Cases = append(d.Cases, api.Case{Shows: some(r, len(d.Traits))})
	}
	for c := range d.Cases {
		d.Cases[c].Cut, d.Cases[c].Seen, d.Cases[c].Shop = near(r, year+r.Intn(12)-4), near(r, year+10+r.Intn(4)), r.Intn(d.Shops+1)-1
		if d.Cases[c].Shop == ground {
			d.Cases[c].Shows = nil
		}
	}
	return d
}

// smalls are dossiers near the year 0, and near both ends of the years; some may be, and some may not.
var smalls = sync.OnceValue(func() []small {
	r := rand.New(rand.NewSource(8))
	list := make([]small, 6000)
	var all sync.WaitGroup
	for i := range list {
		dossier := smallDossier
		if i%5 > 2 {
			dossier = forgedDossier
		}
		d := dossier(r, []int{0, 0, -5, -700, 2987, -2998}[i%6])
		all.Go(func() { list[i] = smallOf(d) })
	}
	all.Wait()
	return list
})

// wider returns a span with a year of which all years are within the limits.
func wider(r *rand.Rand, year, width int) api.Span {
	return to(clip(year-r.Intn(width)), clip(year+r.Intn(width)))
}

// trueDossier returns a dossier with up to six traits and six cases, and a truth of it.
func trueDossier(r *rand.Rand) (api.Dossier, truth) {
	begin, width := []int{-2500, -500, 0, 1400, 2400}[r.Intn(5)], 1+r.Intn(60)
	d, w := api.Dossier{Begin: begin, Shops: r.Intn(api.MaxShops + 1)}, truth{}
	for range r.Intn(api.MaxTraits + 1) {
		first := begin - 300 + r.Intn(200)
		last, known := first+r.Intn(250), begin-100+r.Intn(300)
		w.first, w.last, w.known = append(w.first, first), append(w.last, last), append(w.known, known)
		d.Traits = append(d.Traits, api.Trait{From: wider(r, first, width), Until: wider(r, last, width), Known: wider(r, known, width)})
	}
	for range 1 + r.Intn(api.MaxCases) {
		c, forged := trueCase(r, d, w, width)
		d.Cases, w.forged = append(d.Cases, c), append(w.forged, forged)
	}
	d.Most = min(api.MaxShops, len(w.sellers(d))+r.Intn(2))
	return d, w
}

// trueCase returns a case that is as the traits of a truth are, and whether it is forged.
func trueCase(r *rand.Rand, d api.Dossier, w truth, width int) (api.Case, bool) {
	if d.Shops > 0 && r.Intn(2) == 0 {
		made := d.Begin + r.Intn(250)
		shows := slices.DeleteFunc(some(r, len(d.Traits)), func(t int) bool { return made < w.known[t] })
		return api.Case{Shows: shows, Cut: wider(r, d.Begin-300+r.Intn(400), width), Seen: wider(r, made+r.Intn(100), width), Shop: r.Intn(d.Shops)}, true
	}
	year := d.Begin - 300 + r.Intn(400)
	shows := slices.DeleteFunc(some(r, len(d.Traits)), func(t int) bool { return year < w.first[t] || year > w.last[t] })
	return api.Case{Shows: shows, Cut: wider(r, year, width), Seen: wider(r, year+r.Intn(400), width), Shop: r.Intn(d.Shops+1) - 1}, false
}
