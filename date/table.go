package date

import (
	"strings"

	"cippus/api"
	"cippus/basics"
)

// maxDigits is how many digits a number of a table has at most, without its sign.
const maxDigits = 4

// The words with which the rows of a table begin.
const (
	wordStones = "stones"
	wordEra    = "era"
	wordYears  = "years"
	wordSpan   = "span"
	wordOf     = "of"
	wordAfter  = "after"
	wordSo     = "so"
)

// Write returns the table of a dating.
func Write(d api.Dating) (string, api.Errno) {
	if e := Check(d); e != api.OK {
		return "", e
	}
	var table strings.Builder
	table.WriteString(row(wordStones, d.Stones))
	for _, firsts := range d.Eras {
		table.WriteString(row(wordEra, firsts.Low, firsts.High))
	}
	for _, n := range notesOf(d, 0) {
		table.WriteString(noteRow(n))
	}
	table.WriteString(row(wordSo, len(d.Notes)))
	return table.String(), api.OK
}

func noteRow(n note) string {
	switch n := n.(type) {
	case inYears:
		return row(wordYears, append([]int{n.Stone}, n.Years...)...)
	case within:
		return row(wordSpan, n.Stone, n.Span.Low, n.Span.High)
	case inEra:
		return row(wordOf, n.Stone, n.Other, n.Span.Low, n.Span.High)
	case after:
		return row(wordAfter, n.Stone, n.Other, n.Span.Low, n.Span.High)
	}
	return ""
}

// row returns a row of a word and numbers.
func row(word string, numbers ...int) string {
	return word + " " + basics.Decimal(" ", numbers...) + "\n"
}

// Read returns the dating of a table; with ErrShape for a row that is not as said, its number.
func Read(text string) (d api.Dating, row int, e api.Errno) {
	if len(text) > api.MaxTables {
		return api.Dating{}, 0, api.ErrLong
	}
	var r reader
	if row := basics.Rows(text, r.row, r.ended); row != 0 {
		return api.Dating{}, row, api.ErrShape
	}
	if e := Check(r.dating); e != api.OK {
		return api.Dating{}, 0, e
	}
	return r.dating, 0, api.OK
}

// The parts of a table, in their order.
const (
	partStones = iota
	partEras
	partNotes
	partEnd
)

// reader is the dating as far as its table was read, and the part of the table to which the next row may belong: of eras, or of notes that begin there, or of notes alone.
type reader struct {
	dating api.Dating
	part   int
}

func (r *reader) ended() bool { return r.part == partEnd }

// row reads one row, given as its words; it returns false if the row is not as said.
func (r *reader) row(words []string) bool {
	numbers, ok := basics.AllSigned(words[1:], maxDigits)
	if !ok || (words[0] == wordStones) != (r.part == partStones) || r.ended() {
		return false
	}
	switch words[0] {
	case wordStones:
		return r.stones(numbers)
	case wordEra:
		return r.era(numbers)
	case wordSo:
		r.part = partEnd
		return len(numbers) == 1 && numbers[0] == len(r.dating.Notes)
	}
	r.part = partNotes
	n, ok := readNote(words[0], numbers)
	r.dating.Notes = append(r.dating.Notes, n)
	return ok
}

func (r *reader) stones(numbers []int) bool {
	if len(numbers) != 1 {
		return false
	}
	r.dating.Stones, r.part = numbers[0], partEras
	return true
}

func (r *reader) era(numbers []int) bool {
	if r.part != partEras || len(numbers) != 2 {
		return false
	}
	r.dating.Eras = append(r.dating.Eras, basics.SpanOf(numbers))
	return true
}

// readNote returns the note of a row; false if no note has such a word, or so many numbers.
func readNote(word string, numbers []int) (api.Note, bool) {
	switch {
	case word == wordYears && len(numbers) >= 2:
		return api.Note{Kind: api.NoteYears, Stone: numbers[0], Years: numbers[1:]}, true
	case word == wordSpan && len(numbers) == 3:
		return api.Note{Kind: api.NoteSpan, Stone: numbers[0], Span: basics.SpanOf(numbers[1:])}, true
	case word == wordOf && len(numbers) == 4:
		return api.Note{Kind: api.NoteEra, Stone: numbers[0], Other: numbers[1], Span: basics.SpanOf(numbers[2:])}, true
	case word == wordAfter && len(numbers) == 4:
		return api.Note{Kind: api.NoteAfter, Stone: numbers[0], Other: numbers[1], Span: basics.SpanOf(numbers[2:])}, true
	}
	return api.Note{}, false
}
