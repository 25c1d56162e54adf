package date

import (
	"cippus/api"
	"cippus/basics"
)

// Check returns the first error of a dating.
func Check(d api.Dating) api.Errno {
	if e := basics.Count(d.Stones, 1, api.MaxStones); e != api.OK {
		return e
	}
	if len(d.Eras) > api.MaxEras {
		return api.ErrMany
	}
	for _, firsts := range d.Eras {
		if e := basics.Years(firsts); e != api.OK {
			return e
		}
	}
	if len(d.Notes) > api.MaxNotes {
		return api.ErrMany
	}
	for _, n := range d.Notes {
		if e := checkNote(d, n); e != api.OK {
			return e
		}
	}
	return api.OK
}

func isYear(n int) bool { return !basics.Outside(n, -api.MaxYear, api.MaxYear) }

func checkNote(d api.Dating, n api.Note) api.Errno {
	switch {
	case basics.Outside(n.Kind, api.NoteYears, api.NoteAfter):
		return api.ErrSort
	case basics.Outside(n.Stone, 0, d.Stones-1):
		return api.ErrAbsent
	}
	return noteOf(n).check(d)
}

func (n inYears) check(api.Dating) api.Errno {
	if n.Other != 0 || n.Span != (api.Span{}) {
		return api.ErrShape
	}
	if e := basics.Count(len(n.Years), 1, api.MaxReturn); e != api.OK {
		return e
	}
	for i, year := range n.Years {
		switch {
		case !isYear(year):
			return api.ErrBounds
		case i > 0 && year <= n.Years[i-1]:
			return api.ErrSequence
		}
	}
	return api.OK
}

func (n within) check(api.Dating) api.Errno {
	if n.Other != 0 || len(n.Years) > 0 {
		return api.ErrShape
	}
	return basics.Years(n.Span)
}

func (n inEra) check(d api.Dating) api.Errno {
	switch {
	case basics.Outside(n.Other, 0, len(d.Eras)-1):
		return api.ErrAbsent
	case len(n.Years) > 0:
		return api.ErrShape
	}
	if e := basics.Years(n.Span); e != api.OK {
		return e
	}
	if n.Span.Low < 1 {
		return api.ErrBounds
	}
	return api.OK
}

func (n after) check(d api.Dating) api.Errno {
	switch {
	case basics.Outside(n.Other, 0, d.Stones-1):
		return api.ErrAbsent
	case n.Other == n.Stone || len(n.Years) > 0:
		return api.ErrShape
	}
	return basics.Years(n.Span)
}
