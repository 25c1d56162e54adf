package forge

import (
	"iter"
	"slices"

	"cippus/api"
)

// forged is which cases are forged: 1 for the case 0, 2 for the case 1, 4 for the case 2, and so on, together.
type forged uint

func (f forged) has(c int) bool { return f>>c&1 == 1 }

// by reports whether a shop forged.
func (f forged) by(d api.Dossier, shop int) bool {
	for c, one := range d.Cases {
		if f.has(c) && one.Shop == shop {
			return true
		}
	}
	return false
}

// shops returns the shops that forged, ascending.
func (f forged) shops(d api.Dossier) []int {
	var list []int
	for shop := range d.Shops {
		if f.by(d, shop) {
			list = append(list, shop)
		}
	}
	return list
}

// trait returns between which years all is that is said of a trait, in the truths in which just these cases are forged. The cases do not touch each other: with the least first years and the greatest last ones, each of them keeps all of its years.
func (f forged) trait(d api.Dossier, trait int) api.Trait {
	t := d.Traits[trait]
	from := []api.Span{t.From, upTo(t.Until.High)}
	until := []api.Span{t.Until, since(t.From.Low)}
	known := []api.Span{t.Known}
	for c, one := range d.Cases {
		switch {
		case !slices.Contains(one.Shows, trait):
			continue
		case f.has(c):
			known = append(known, upTo(one.Seen.High))
		default:
			years := cut(d, one)
			from, until = append(from, upTo(years.High)), append(until, since(years.Low))
		}
	}
	return api.Trait{From: met(from...), Until: met(until...), Known: met(known...)}
}

// choices hands out all choices of forged ones among so many cases.
func choices(cases int) iter.Seq[forged] {
	return func(yield func(forged) bool) {
		for f := range forged(1) << cases {
			if !yield(f) {
				return
			}
		}
	}
}

// truths hands out which cases are forged in a truth, if at most so many shops sold forged ones.
func truths(d api.Dossier, most int) iter.Seq[forged] {
	return func(yield func(forged) bool) {
		if slices.ContainsFunc(d.Traits, func(t api.Trait) bool { return empty(inUse(t)) }) {
			return
		}
	next:
		for f := range choices(len(d.Cases)) {
			for c, one := range d.Cases {
				if f.has(c) && !forgeable(d, one) || !f.has(c) && empty(cut(d, one)) {
					continue next
				}
			}
			if len(f.shops(d)) <= most && !yield(f) {
				return
			}
		}
	}
}

// least returns the first one of some things in an order, false if there are none.
func least[T any](things iter.Seq[T], compare func(a, b T) int) (T, bool) {
	var first T
	found := false
	for thing := range things {
		if !found || compare(thing, first) < 0 {
			first, found = thing, true
		}
	}
	return first, found
}
