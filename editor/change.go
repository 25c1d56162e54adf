package editor

import (
	"slices"
	"strings"

	"cippus/api"
	"cippus/basics"
	"cippus/edition"
)

// fix replaces signs of a line.
func (x *editor) fix(o order) any {
	const numbers = 5
	must(len(o) > numbers, api.ErrShape)
	n := o[:numbers].numbers(numbers)
	text := strings.Join(o[numbers:], " ")
	c := api.Change{Book: n[0], Number: n[1], Line: n[2], From: n[3], Until: n[4], Text: text}
	next, _, e := edition.Apply(x.Edition, []api.Change{c})
	x.Edition = taken(next, e)
	stone := taken(edition.Find(x.Edition, c.Book, c.Number))
	must(!x.convicted(stone), api.ErrClash)
	return done{}
}

// renumber adds a book.
func (x *editor) renumber(o order) any {
	o.numbers(0)
	x.Edition = taken(edition.Renumber(x.Edition))
	return done{}
}

// span notes between which years a stone was cut.
func (x *editor) span(o order) any {
	n := o.numbers(3)
	return x.note(api.Note{Kind: api.NoteSpan, Stone: n[0], Span: basics.SpanOf(n[1:])})
}

// after notes how many years after another one a stone was cut.
func (x *editor) after(o order) any {
	n := o.numbers(4)
	return x.note(api.Note{Kind: api.NoteAfter, Stone: n[0], Other: n[1], Span: basics.SpanOf(n[2:])})
}

func (x *editor) note(n api.Note) any {
	x.Dating.Notes = append(x.Dating.Notes, n)
	x.date()
	return done{}
}

// held puts down that a man held an office, in the years of the stone that says so.
func (x *editor) held(o order) any {
	n := o.numbers(4)
	stone := one(n[3], len(x.dates))
	must(!x.convicted(stone), api.ErrClash)
	return x.record(api.Record{Man: n[0], Office: n[1], Town: n[2], When: x.dates[stone]})
}

// kin puts down that a man had a child.
func (x *editor) kin(o order) any {
	n := o.numbers(2)
	return x.record(api.Record{Kin: true, Man: n[0], Child: n[1]})
}

func (x *editor) record(r api.Record) any {
	x.Roll.Records = append(x.Roll.Records, r)
	x.live()
	return done{}
}

// shows puts a trait in its place among those that a stone shows.
func (x *editor) shows(o order) any {
	n := o.numbers(2)
	stone, trait := &x.Dossier.Cases[one(n[0], len(x.dates))], n[1]
	at, twice := slices.BinarySearch(stone.Shows, trait)
	must(!twice, api.ErrTwice)
	stone.Shows = slices.Insert(stone.Shows, at, trait)
	x.judge()
	return done{}
}

// claim narrows when a stone was cut by what it claims to the years in which it is dated.
func (x *editor) claim(o order) any {
	s := one(o.numbers(1)[0], len(x.dates))
	stone := &x.Dossier.Cases[s]
	stone.Cut = basics.Common(stone.Cut, x.dates[s])
	must(stone.Cut.Low <= stone.Cut.High, api.ErrClash)
	x.judge()
	return done{}
}
