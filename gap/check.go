package gap

import (
	"slices"

	"cippus/api"
	"cippus/basics"
)

// widest is how wide the letters of a gap can be together, and how great the numbers of its Width may be.
const widest = api.MaxFill * api.MaxWidth

// Check returns the first error of a lexicon.
func Check(x api.Lexicon) api.Errno {
	if e := checkForms(x); e != api.OK {
		return e
	}
	if e := checkWords(x.Words, len(x.First)); e != api.OK {
		return e
	}
	if len(x.Widths) != alphabet {
		return api.ErrShape
	}
	for _, width := range x.Widths {
		if e := basics.Span(width, 1, api.MaxWidth); e != api.OK {
			return e
		}
	}
	return api.OK
}

func checkForms(x api.Lexicon) api.Errno {
	forms := len(x.First)
	if e := basics.Count(forms, 1, api.MaxForms); e != api.OK {
		return e
	}
	if len(x.Last) != forms || len(x.Next) != forms {
		return api.ErrShape
	}
	for _, next := range x.Next {
		if len(next) != forms {
			return api.ErrShape
		}
	}
	return api.OK
}

func checkWords(words []api.Word, forms int) api.Errno {
	if e := basics.Count(len(words), 1, api.MaxLexicon); e != api.OK {
		return e
	}
	for i, word := range words {
		switch {
		case basics.Outside(len(word.Text), 1, api.MaxWord) || !basics.AllLetters(word.Text):
			return api.ErrShape
		case basics.Outside(word.Form, 0, forms-1):
			return api.ErrAbsent
		case slices.Contains(words[:i], word):
			return api.ErrTwice
		}
	}
	return api.OK
}

// CheckRow returns the first error of a row.
func CheckRow(r []api.Cell) api.Errno {
	if e := basics.Count(len(r), 1, api.MaxCells); e != api.OK {
		return e
	}
	gaps := 0
	for _, cell := range r {
		if e := checkCell(cell); e != api.OK {
			return e
		}
		if cell.Gap {
			gaps++
		}
		if gaps > api.MaxGaps {
			return api.ErrMany
		}
	}
	return api.OK
}

func checkCell(cell api.Cell) api.Errno {
	switch {
	case cell.Gap && cell.Letters != "":
		return api.ErrShape
	case cell.Gap:
		return basics.Span(cell.Width, 0, widest)
	case !basics.Ascending(cell.Letters) || cell.Width != api.Span{}:
		return api.ErrShape
	}
	return api.OK
}

// checkBoth returns the first error of a lexicon, then that of a row.
func checkBoth(x api.Lexicon, r []api.Cell) api.Errno {
	if e := Check(x); e != api.OK {
		return e
	}
	return CheckRow(r)
}
