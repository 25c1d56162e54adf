package stemma

import (
	"math/rand"
	"slices"
	"strings"
	"sync"

	"cippus/api"
)

// abc are all letters.
const abc = "ABCDEFGHIJKLMNOPQRSTUVWXYZ"

// saw is a copy by somebody who may have seen the stone.
func saw(text string, errors int) api.Copy { return api.Copy{Text: text, Errors: errors, Saw: true} }

// had is a copy by somebody who surely did not see the stone.
func had(text string, errors int) api.Copy { return api.Copy{Text: text, Errors: errors} }

func of(l ...api.Copy) []api.Copy { return l }

// The traditions L, M and N of the chapter.
func traditionL() []api.Copy { return of(saw("ARMA", 1), saw("ARMO", 0), had("ERMO", 1)) }
func traditionM() []api.Copy { return of(saw("ARMA", 1), saw("ARMO", 1), had("ERMO", 1)) }
func traditionN() []api.Copy { return of(saw("ARMA", 0), saw("ARMO", 1), had("ERMO", 1)) }

// fact is one way in which all can be: what the stone had, and from what each copy was made (-1 is the stone).
type fact struct {
	stone string
	from  []int
}

// errors returns how many errors each copy has, as far as the text of the stone goes.
func (w fact) errors(l []api.Copy) []int {
	list := make([]int, len(w.from))
	for i, source := range w.from {
		text := w.stone
		if source >= 0 {
			text = l[source].Text
		}
		for place := range len(text) {
			if text[place] != l[i].Text[place] {
				list[i]++
			}
		}
	}
	return list
}

// possible reports whether a fact, as far as it goes, is a truth, as the chapter says when it is.
func (w fact) possible(l []api.Copy) bool {
	for i, n := range w.errors(l) {
		if n > l[i].Errors || w.from[i] < 0 && !l[i].Saw {
			return false
		}
	}
	return true
}

// depends reports whether one copy depends on another one.
func (w fact) depends(a, b int) bool {
	source := w.from[a]
	return source >= 0 && (source == b || w.depends(source, b))
}

// eachTruth shows all truths.
func eachTruth(l []api.Copy, found func(w fact)) {
	var w fact
	var next func()
	next = func() {
		switch {
		case !w.possible(l):
		case len(w.from) < len(l):
			for source := -1; source < len(w.from); source++ {
				w.from = append(w.from, source)
				next()
				w.from = w.from[:len(w.from)-1]
			}
		case len(w.stone) < len(l[0].Text):
			before := w.stone
			for i := range len(abc) {
				w.stone = before + abc[i:i+1]
				next()
			}
			w.stone = before
		default:
			found(w)
		}
	}
	next()
}

// said is all that is said of a tradition.
type said struct {
	sources [][]int
	depends [][]int
	letters []string
	print   string
	fewest  int
}

// small is a tradition with few places, how many truths it has, and what has to be said of it.
type small struct {
	l      []api.Copy
	truths int
	all    said
}

// verdict returns the verdict on what is so in so many of all truths.
func verdict(so, all int) int {
	switch so {
	case all:
		return api.Yes
	case 0:
		return api.No
	}
	return api.Open
}

func smallOf(l []api.Copy) small {
	s := small{l: l}
	sources, depends := make([][6]int, len(l)), make([][5]int, len(l))
	letters := make([]string, len(l[0].Text))
	eachTruth(l, func(w fact) {
		errors := 0
		for a, n := range w.errors(l) {
			errors += n
			sources[a][w.from[a]+1]++
			for b := range l {
				if w.depends(a, b) {
					depends[a][b]++
				}
			}
		}
		for place := range letters {
			if letter := w.stone[place : place+1]; !strings.Contains(letters[place], letter) {
				letters[place] += letter
			}
		}
		if s.truths == 0 || errors < s.all.fewest {
			s.all.fewest = errors
		}
		s.truths++
	})
	if s.truths == 0 {
		return s
	}
	for a := range l {
		var from, on []int
		for source := range a + 1 {
			from = append(from, verdict(sources[a][source], s.truths))
		}
		for b := range l {
			on = append(on, verdict(depends[a][b], s.truths))
		}
		s.all.sources, s.all.depends = append(s.all.sources, from), append(s.all.depends, on)
	}
	for _, found := range letters {
		list := strings.Split(found, "")
		slices.Sort(list)
		s.all.letters = append(s.all.letters, strings.Join(list, ""))
		if len(found) > 1 {
			found = "-"
		}
		s.all.print += found
	}
	return s
}

// smallTradition returns a tradition of up to three places, and up to five copies that are alike.
func smallTradition(r *rand.Rand) []api.Copy {
	places := 1 + r.Intn(3)
	used := []string{"AB", "ABC", "AZ", "XYZ"}[r.Intn(4)]
	var l []api.Copy
	for range 1 + r.Intn(api.MaxCopies) {
		text := ""
		for range places {
			text += used[r.Intn(len(used)):][:1]
		}
		l = append(l, api.Copy{Text: text, Errors: []int{0, 0, 1, 1, 1, 2, 2, 3}[r.Intn(8)], Saw: r.Intn(3) > 0})
	}
	return l
}

// smalls are traditions with few places; some may be, and some may not.
var smalls = sync.OnceValue(func() []small {
	r := rand.New(rand.NewSource(7))
	list := make([]small, 4000)
	var all sync.WaitGroup
	for i := range list {
		l := smallTradition(r)
		all.Go(func() { list[i] = smallOf(l) })
	}
	all.Wait()
	return list
})

// letterOf returns one of the first letters.
func letterOf(r *rand.Rand, many int) byte { return abc[r.Intn(many)] }

// copied returns a copy that was made from a text, with some errors; it seldom may have more of them.
func copied(r *rand.Rand, text string, used int) api.Copy {
	made, errors := []byte(text), 0
	for place := range made {
		if errors < api.MaxErrors && r.Intn(4) == 0 {
			made[place] = letterOf(r, used)
		}
		if made[place] != text[place] {
			errors++
		}
	}
	if r.Intn(4) == 0 {
		errors += r.Intn(api.MaxErrors + 1 - errors)
	}
	return api.Copy{Text: string(made), Errors: errors}
}

// trueTradition returns a tradition, and a truth of it.
func trueTradition(r *rand.Rand) ([]api.Copy, fact) {
	used := []int{2, 4, 26}[r.Intn(3)]
	var w fact
	for range 1 + r.Intn(api.MaxPlaces) {
		w.stone += string(rune(letterOf(r, used)))
	}
	var l []api.Copy
	for i := range 1 + r.Intn(api.MaxCopies) {
		l, w = oneMore(r, l, w, r.Intn(i+1)-1, used)
	}
	return l, w
}

// oneMore returns a tradition with one copy more, and its truth.
func oneMore(r *rand.Rand, l []api.Copy, w fact, source, used int) ([]api.Copy, fact) {
	text := w.stone
	if source >= 0 {
		text = l[source].Text
	}
	c := copied(r, text, used)
	c.Saw = source < 0 || r.Intn(2) == 0
	return append(slices.Clone(l), c), fact{w.stone, append(slices.Clone(w.from), source)}
}
