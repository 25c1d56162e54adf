package edition

import (
	"cmp"
	"errors"
	"slices"
	"strconv"

	"cippus/api"
	"cippus/basics"
)

// failure is an error of a change, and the number of this change.
type failure struct {
	at int
	e  api.Errno
}

func (f failure) Error() string { return "change " + strconv.Itoa(f.at) + ": " + f.e.Error() }

func (f failure) Unwrap() error { return f.e }

// edit is a change, its number, the slab that it names, and the signs that it puts in.
type edit struct {
	api.Change
	at, slab int
	signs    []api.Sign
}

// clashes reports whether two changes are of the same line and cannot both be made.
func (x edit) clashes(y edit) bool {
	if x.slab != y.slab || x.Line != y.Line {
		return false
	}
	// Two changes that put in at one place overlap nowhere: only their ends tell.
	same := x.From == y.From && x.Until == y.Until
	return same || x.From < y.Until && y.From < x.Until
}

// Apply returns an edition after some changes of it; with the error of a change, its number.
func Apply(d api.Edition, l []api.Change) (next api.Edition, at int, e api.Errno) {
	if e := CheckAll(d); e != api.OK {
		return api.Edition{}, 0, e
	}
	if len(l) > api.MaxChanges {
		return api.Edition{}, 0, api.ErrMany
	}
	next, err := changed(d, l)
	var f failure
	if errors.As(err, &f) {
		return api.Edition{}, f.at, f.e
	}
	return next, 0, api.OK
}

// changed returns an edition after some changes of it, or a failure.
func changed(d api.Edition, l []api.Change) (api.Edition, error) {
	edits, err := editsOf(d, l)
	if err != nil {
		return api.Edition{}, err
	}
	next := basics.Edition(d)
	for slab, s := range next.Slabs {
		for line, text := range s.Lines {
			others := func(x edit) bool { return x.slab != slab || x.Line != line }
			text, err := rewritten(text, slices.DeleteFunc(slices.Clone(edits), others))
			if err != nil {
				return api.Edition{}, err
			}
			s.Lines[line] = text
		}
	}
	return next, nil
}

// editsOf returns what some changes do, or the failure of the first one that may not be.
func editsOf(d api.Edition, l []api.Change) ([]edit, error) {
	var edits []edit
	slabOf := numbered(d.Slabs)
	for at, c := range l {
		x, e := editOf(d, c, slabOf)
		if e == api.OK && slices.ContainsFunc(edits, x.clashes) {
			e = api.ErrClash
		}
		if e != api.OK {
			return nil, failure{at, e}
		}
		x.at = at
		edits = append(edits, x)
	}
	return edits, nil
}

// editOf returns what a change does, or its first error if there is no other change.
func editOf(d api.Edition, c api.Change, slabOf map[[2]int]int) (edit, api.Errno) {
	if !isBook(d, c.Book) {
		return edit{}, api.ErrAbsent
	}
	slab, found := slabOf[[2]int{c.Book, c.Number}]
	if !found {
		return edit{}, api.ErrNone
	}
	lines := d.Slabs[slab].Lines
	if basics.Outside(c.Line, 0, len(lines)-1) {
		return edit{}, api.ErrAbsent
	}
	line, _ := Signs(lines[c.Line])
	if basics.Outside(c.Until, 0, len(line)) || basics.Outside(c.From, 0, c.Until) {
		return edit{}, api.ErrBounds
	}
	signs, e := newSigns(c)
	return edit{Change: c, slab: slab, signs: signs}, e
}

// newSigns returns the signs that a change puts in the place of others.
func newSigns(c api.Change) ([]api.Sign, api.Errno) {
	if c.Text != "" {
		return Signs(c.Text)
	}
	if c.From == c.Until {
		return nil, api.ErrFew
	}
	return nil, api.OK
}

// rewritten returns a line as it is printed after all of its changes, or the failure of the first one of them.
func rewritten(text string, edits []edit) (string, error) {
	if len(edits) == 0 {
		return text, nil
	}
	first := edits[0].at
	line, _ := Signs(text)
	text, e := Print(replaced(line, edits))
	if e != api.OK {
		return "", failure{first, e}
	}
	return text, nil
}

// replaced returns a line after all of its changes. They are made from the last one to the first one: what is ahead of a change stays in its place so. It puts them in this order.
func replaced(line []api.Sign, edits []edit) []api.Sign {
	slices.SortFunc(edits, func(x, y edit) int { return cmp.Or(cmp.Compare(y.From, x.From), cmp.Compare(y.Until, x.Until)) })
	for _, x := range edits {
		ahead, behind := line[:x.From:x.From], line[x.Until:]
		line = append(append(ahead, x.signs...), behind...)
	}
	return line
}
