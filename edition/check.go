package edition

import (
	"slices"

	"cippus/api"
	"cippus/basics"
)

// absent is the number of a slab in a book in which it is not.
const absent = 0

// Check returns the first error of a line.
func Check(line []api.Sign) api.Errno {
	if e := basics.Count(len(line), 1, api.MaxLine); e != api.OK {
		return e
	}
	for p := range places(line) {
		if e := p.check(); e != api.OK {
			return e
		}
	}
	return api.OK
}

// check returns the first error of a sign at its place.
func (p place) check() api.Errno {
	kind := p.sign.Kind
	switch {
	case basics.Outside(kind, api.SignSure, api.SignFree):
		return api.ErrSort
	case !lettered(p.sign):
		return api.ErrShape
	case kind == api.SignBlank && (p.first || p.last || p.ahead.Kind == kind):
		return api.ErrSequence
	case kind == api.SignGap && p.ahead.Kind == kind:
		return api.ErrTwice
	}
	return api.OK
}

// lettered reports whether a sign has a letter as its kind may have one.
func lettered(s api.Sign) bool {
	switch s.Kind {
	case api.SignGap, api.SignBlank, api.SignFree:
		return s.Letter == 0
	case api.SignLost:
		return s.Letter == unknown || basics.IsLetter(s.Letter)
	}
	return basics.IsLetter(s.Letter)
}

// CheckAll returns the first error of an edition.
func CheckAll(d api.Edition) api.Errno {
	if e := basics.Count(d.Books, 1, api.MaxBooks); e != api.OK {
		return e
	}
	if len(d.Slabs) > api.MaxSlabs {
		return api.ErrMany
	}
	for i, s := range d.Slabs {
		if e := checkNumbers(s.Numbers, d.Books, numbered(d.Slabs[:i])); e != api.OK {
			return e
		}
		if e := checkLines(s.Lines); e != api.OK {
			return e
		}
	}
	return api.OK
}

// checkNumbers returns the first error of the numbers of a slab, with those of the slabs before.
func checkNumbers(numbers []int, books int, before map[[2]int]int) api.Errno {
	if len(numbers) != books {
		return api.ErrShape
	}
	for _, n := range numbers {
		if basics.Outside(n, absent, api.MaxNumber) {
			return api.ErrBounds
		}
	}
	if !slices.ContainsFunc(numbers, func(n int) bool { return n != absent }) {
		return api.ErrNone
	}
	for book, n := range numbers {
		if _, twice := before[[2]int{book, n}]; twice {
			return api.ErrTwice
		}
	}
	return api.OK
}

func checkLines(lines []string) api.Errno {
	if e := basics.Count(len(lines), 1, api.MaxRows); e != api.OK {
		return e
	}
	for _, text := range lines {
		if _, e := Signs(text); e != api.OK {
			return api.ErrShape
		}
	}
	return api.OK
}

func isBook(d api.Edition, book int) bool { return !basics.Outside(book, 0, d.Books-1) }
