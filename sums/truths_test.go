package sums

import (
	"math/rand"
	"slices"
	"strings"
	"sync"

	"cippus/api"
)

// of makes an account of rows as they are written.
func of(rows ...string) []api.Entry {
	var l []api.Entry
	for _, row := range rows {
		l = append(l, api.Entry{Kind: strings.Index(" -=#", row[:1]), Signs: row[2:]})
	}
	return l
}

func sameLists(a, b [][]int) bool { return slices.EqualFunc(a, b, slices.Equal[[]int]) }

// numerals returns the numerals of 1, 2, 3, and so on, digit by digit.
var numerals = sync.OnceValue(func() []string {
	digits := func(one, five string) []string {
		var list []string
		for n := range 10 {
			list = append(list, strings.Repeat(five, n/5)+strings.Repeat(one, n%5))
		}
		return list
	}
	var list []string
	for _, m := range digits("M", "-")[:5] {
		for _, c := range digits("C", "D") {
			for _, x := range digits("X", "L") {
				for _, i := range digits("I", "V") {
					list = append(list, m+c+x+i)
				}
			}
		}
	}
	return list[1:]
})

// matches reports whether a numeral fits signs.
func matches(numeral, signs string) bool {
	if len(numeral) != len(signs) {
		return false
	}
	for i := range numeral {
		if signs[i] != '?' && signs[i] != numeral[i] {
			return false
		}
	}
	return true
}

// numbersOf returns the numbers whose numerals fit.
func numbersOf(signs string) []int {
	var list []int
	for i, numeral := range numerals() {
		if matches(numeral, signs) {
			list = append(list, i+1)
		}
	}
	return list
}

// right reports whether all sums are right.
func right(l []api.Entry, numbers []int) bool {
	for i, entry := range l {
		sum := 0
		for k := i - 1; k >= 0 && (entry.Kind == api.EntryAll || l[k].Kind != api.EntrySum); k-- {
			if l[k].Kind == api.EntryItem {
				sum += numbers[k]
			}
		}
		if entry.Kind != api.EntryItem && sum != numbers[i] {
			return false
		}
	}
	return true
}

// truths returns all readings: of all lists of numbers that fit, in order, those with right sums.
func truths(l []api.Entry) [][]int {
	lists := [][]int{{}}
	for _, entry := range l {
		numbers := numbersOf(entry.Signs)
		var longer [][]int
		for _, list := range lists {
			for _, n := range numbers {
				longer = append(longer, append(slices.Clone(list), n))
			}
		}
		lists = longer
	}
	return slices.DeleteFunc(lists, func(list []int) bool { return !right(l, list) })
}

// choicesOf returns which numbers each entry has in some of the readings.
func choicesOf(l []api.Entry, readings [][]int) [][]int {
	choices := make([][]int, len(l))
	for i := range l {
		for _, list := range readings {
			choices[i] = append(choices[i], list[i])
		}
		slices.Sort(choices[i])
		choices[i] = slices.Compact(choices[i])
	}
	return choices
}

// struckOf returns what has to be struck out, by all lists of entries; false if nothing helps.
func struckOf(l []api.Entry) ([]int, bool) {
	var best []int
	found := false
	for set := range 1<<len(l) - 1 {
		var struck []int
		var left []api.Entry
		for i, entry := range l {
			if set>>i&1 == 1 {
				struck = append(struck, i)
			} else {
				left = append(left, entry)
			}
		}
		better := len(struck) < len(best) || len(struck) == len(best) && slices.Compare(struck, best) < 0
		if (!found || better) && len(truths(left)) > 0 {
			best, found = struck, true
		}
	}
	return best, found
}

// trueAccount returns an account with right sums, and its numbers; no sign is lost.
func trueAccount(r *rand.Rand) ([]api.Entry, []int) {
	var l []api.Entry
	var numbers []int
	sum, all := 0, 0
	for range 1 + r.Intn(6) {
		kind, n := api.EntryItem, []int{1 + r.Intn(12), 1 + r.Intn(120), 1 + r.Intn(900)}[r.Intn(3)]
		if r.Intn(3) == 0 && sum > 0 {
			kind, n, sum = api.EntrySum, sum, 0
		} else if r.Intn(4) == 0 && all > 0 {
			kind, n = api.EntryAll, all
		} else {
			sum, all = sum+n, all+n
		}
		l, numbers = append(l, api.Entry{Kind: kind, Signs: numerals()[n-1]}), append(numbers, n)
	}
	return l, numbers
}

// worn returns the account with at most so many signs lost.
func worn(r *rand.Rand, l []api.Entry, most int) []api.Entry {
	l = slices.Clone(l)
	for range r.Intn(most + 1) {
		i := r.Intn(len(l))
		k := r.Intn(len(l[i].Signs))
		l[i].Signs = l[i].Signs[:k] + "?" + l[i].Signs[k+1:]
	}
	return l
}

// spoilt returns the account with some of its entries changed, so that it may not add up.
func spoilt(r *rand.Rand, l []api.Entry) []api.Entry {
	l = slices.Clone(l)
	for range 1 + r.Intn(3) {
		i := r.Intn(len(l))
		switch r.Intn(3) {
		case 0:
			l[i].Kind = 1 + r.Intn(3)
		case 1:
			k := r.Intn(len(l))
			l[i], l[k] = l[k], l[i]
		default:
			l[i].Signs = numerals()[r.Intn(20)]
		}
	}
	return l
}

// small is an account, and all its readings.
type small struct {
	l        []api.Entry
	readings [][]int
}

// smalls are accounts with few enough lists of numbers that fit; some add up, and some do not.
var smalls = sync.OnceValue(func() []small {
	r := rand.New(rand.NewSource(3))
	var list []small
	for i := range 900 {
		l, _ := trueAccount(r)
		if i%3 > 0 {
			l = spoilt(r, l)
		}
		l = worn(r, l, 4)
		if lost := strings.Count(signsOf(l), "?"); lost < 5 {
			list = append(list, small{l, truths(l)})
		}
	}
	return list
})

// signsOf returns the signs of all entries.
func signsOf(l []api.Entry) string {
	all := ""
	for _, entry := range l {
		all += entry.Signs
	}
	return all
}
