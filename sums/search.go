package sums

import (
	"slices"

	"cippus/api"
)

// line is an entry, with all numbers whose numerals fit it.
type line struct {
	kind    int
	numbers []int
}

// account is a valid account, or what is left of one.
type account []line

func accountOf(l []api.Entry) account {
	var a account
	for _, entry := range l {
		a = append(a, line{entry.Kind, slices.Collect(fitting(entry.Signs))})
	}
	return a
}

// enough is what leaves a search: from whatever depth, it need not go back step by step.
type enough struct{}

// search shows all readings, in order, until found panics with enough. A reading is the search's own: it changes afterwards.
func (a account) search(found func(reading []int)) {
	defer func() {
		cause := recover()
		if _, ok := cause.(enough); cause != nil && !ok {
			panic(cause)
		}
	}()
	reading := make([]int, len(a))
	var read func(i, sum, all int)
	read = func(i, sum, all int) {
		if i == len(a) {
			found(reading)
			return
		}
		for _, n := range a[i].numbers {
			reading[i] = n
			switch {
			case a[i].kind == api.EntryItem:
				read(i+1, sum+n, all+n)
			case a[i].kind == api.EntrySum && n == sum:
				read(i+1, 0, all)
			case a[i].kind == api.EntryAll && n == all:
				read(i+1, sum, all)
			}
		}
	}
	read(0, 0, 0)
}

// first returns the first readings, at most so many.
func (a account) first(most int) [][]int {
	var list [][]int
	a.search(func(reading []int) {
		list = append(list, slices.Clone(reading))
		if len(list) == most {
			panic(enough{})
		}
	})
	return list
}

// without returns what is left if some entries are struck out.
func (a account) without(struck ...int) account {
	var left account
	for i, line := range a {
		if !slices.Contains(struck, i) {
			left = append(left, line)
		}
	}
	return left
}
