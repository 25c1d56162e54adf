package career

import (
	"errors"
	"slices"
	"strconv"
	"strings"

	"cippus/api"
	"cippus/basics"
)

// maxDigits is how many digits a number of a regest has at most, without its sign.
const maxDigits = 5

// separator is between the parts of a row.
const separator = ","

// The words with which the rows of a regest begin.
const (
	wordOffices = "offices"
	wordOffice  = "office"
	wordLife    = "life"
	wordTown    = "town"
	wordMan     = "man"
	wordHeld    = "held"
	wordKin     = "kin"
	wordEnd     = "end"
)

// The letters of the word of a town: for a town that is far from it, and for one that is not.
const (
	letterFar  = 'F'
	letterNear = 'N'
)

// Write returns the regest of a roll.
func Write(r api.Roll) (string, api.Errno) {
	if e := Check(r); e != api.OK {
		return "", e
	}
	rows := []string{row(wordOffices, len(r.Offices))}
	for _, o := range r.Offices {
		rows = append(rows, row(wordOffice, o.Age, o.Gap, o.Again))
	}
	rows = append(rows, row(wordLife, r.Life, r.Parents.Low, r.Parents.High))
	for _, far := range r.Far {
		rows = append(rows, wordTown+separator+letters(far))
	}
	for _, m := range r.Men {
		rows = append(rows, row(wordMan, m.Name, m.Born.Low, m.Born.High, m.Died.Low, m.Died.High))
	}
	for _, rec := range r.Records {
		if rec.Kin {
			rows = append(rows, row(wordKin, rec.Man, rec.Child))
		} else {
			rows = append(rows, row(wordHeld, rec.Man, rec.Office, rec.Town, rec.When.Low, rec.When.High))
		}
	}
	rows = append(rows, wordEnd)
	return strings.Join(rows, "\n") + "\n", api.OK
}

// row returns a row of a word and numbers.
func row(word string, numbers ...int) string {
	return word + separator + basics.Decimal(separator, numbers...)
}

// letters returns the word of a town.
func letters(far []bool) string {
	word := ""
	for _, f := range far {
		letter := letterNear
		if f {
			letter = letterFar
		}
		word += string(letter)
	}
	return word
}

// badRow is the number of a row that is not as said.
type badRow int

func (b badRow) Error() string { return "row " + strconv.Itoa(int(b)) + " is not as said" }

// Read returns the roll of a regest; with ErrShape for a row that is not as said, its number.
func Read(text string) (r api.Roll, line int, e api.Errno) {
	r, err := parse(text)
	var bad badRow
	switch {
	case errors.As(err, &bad):
		return api.Roll{}, int(bad), api.ErrShape
	case errors.As(err, &e):
		return api.Roll{}, 0, e
	}
	return r, 0, api.OK
}

// parse returns the roll of a regest, or what is wrong with it: an api.Errno, or a badRow.
func parse(text string) (api.Roll, error) {
	if len(text) > api.MaxRegest {
		return api.Roll{}, api.ErrLong
	}
	var r reader
	if row := basics.Lines(text, r.row, r.ended); row != 0 {
		return api.Roll{}, badRow(row)
	}
	if e := Check(r.roll); e != api.OK {
		return api.Roll{}, e
	}
	return r.roll, nil
}

// The parts of a regest, in their order.
const (
	partOffices = iota
	partOffice
	partLife
	partTowns
	partMen
	partRecords
	partEnd
	partNothing
)

// reader is the roll as far as its regest was read, the part of the regest to which the next row belongs (one of those from partTowns on may be left for a later one), and how many rows of offices are to come.
type reader struct {
	roll    api.Roll
	part    int
	offices int
}

func (r *reader) ended() bool { return r.part == partNothing }

// sort is a sort of rows: the word with which they begin, the part to which they belong, and what reads the other parts of such a row; that returns false if they are not as said.
type sort struct {
	word string
	part int
	read func(parts []string) bool
}

func (r *reader) sorts() []sort {
	return []sort{
		{wordOffices, partOffices, r.readOffices},
		{wordOffice, partOffice, numbers(3, r.office)},
		{wordLife, partLife, numbers(3, r.life)},
		{wordTown, partTowns, r.readTown},
		{wordMan, partMen, numbers(5, r.man)},
		{wordHeld, partRecords, numbers(5, r.held)},
		{wordKin, partRecords, numbers(2, r.kin)},
		{wordEnd, partEnd, numbers(0, r.end)},
	}
}

// row reads one row; it returns false if the row is not as said.
func (r *reader) row(row string) bool {
	parts := strings.Split(row, separator)
	sorts := r.sorts()
	i := slices.IndexFunc(sorts, func(s sort) bool { return s.word == parts[0] })
	if i < 0 || !r.may(sorts[i].part) {
		return false
	}
	r.part = sorts[i].part
	return sorts[i].read(parts[1:])
}

// may reports whether a row of a part may come next.
func (r *reader) may(part int) bool {
	return part == r.part || part > r.part && r.part >= partTowns
}

// numbers returns what reads parts that are so many numbers, and has them taken.
func numbers(many int, take func(n []int)) func(parts []string) bool {
	return func(parts []string) bool {
		n, ok := basics.AllSigned(parts, maxDigits)
		if !ok || len(n) != many {
			return false
		}
		take(n)
		return true
	}
}

func (r *reader) readOffices(parts []string) bool {
	n, ok := basics.Number(strings.Join(parts, separator), maxDigits)
	r.expect(n)
	return ok
}

// expect says how many rows of offices come next.
func (r *reader) expect(offices int) {
	r.offices, r.part = offices, partOffice
	if offices == 0 {
		r.part = partLife
	}
}

func (r *reader) office(n []int) {
	r.roll.Offices = append(r.roll.Offices, api.Office{Age: n[0], Gap: n[1], Again: n[2]})
	r.expect(r.offices - 1)
}

func (r *reader) life(n []int) {
	r.roll.Life, r.roll.Parents, r.part = n[0], basics.SpanOf(n[1:]), partTowns
}

func (r *reader) readTown(parts []string) bool {
	word := strings.Join(parts, separator)
	var far []bool
	for _, letter := range word {
		if letter != letterFar && letter != letterNear {
			return false
		}
		far = append(far, letter == letterFar)
	}
	r.roll.Far = append(r.roll.Far, far)
	return word != ""
}

func (r *reader) man(n []int) {
	r.roll.Men = append(r.roll.Men, api.Man{Name: n[0], Born: basics.SpanOf(n[1:]), Died: basics.SpanOf(n[3:])})
}

func (r *reader) held(n []int) {
	r.roll.Records = append(r.roll.Records, api.Record{Man: n[0], Office: n[1], Town: n[2], When: basics.SpanOf(n[3:])})
}

func (r *reader) kin(n []int) {
	r.roll.Records = append(r.roll.Records, api.Record{Kin: true, Man: n[0], Child: n[1]})
}

func (r *reader) end([]int) { r.part = partNothing }
