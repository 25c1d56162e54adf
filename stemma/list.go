package stemma

import (
	"strconv"
	"strings"

	"cippus/api"
	"cippus/basics"
)

// maxDigits is how many digits a number of a list has.
const maxDigits = 1

// The words with which the rows of a list begin: the first one, those of copies, and the last one.
const (
	wordPlaces = "places"
	wordSaw    = "saw"
	wordHad    = "had"
	wordCopies = "copies"
)

// Write returns the list of a tradition.
func Write(l []api.Copy) (string, api.Errno) {
	if e := Check(l); e != api.OK {
		return "", e
	}
	list := row(wordPlaces, len(l[0].Text))
	for _, c := range l {
		word := wordHad
		if c.Saw {
			word = wordSaw
		}
		list += row(word+" "+c.Text, c.Errors)
	}
	return list + row(wordCopies, len(l)), api.OK
}

// row returns a row that ends with a number.
func row(words string, number int) string { return words + " " + strconv.Itoa(number) + "\n" }

// Read returns the tradition of a list; with ErrShape for a row that is not as said, its number.
func Read(text string) (l []api.Copy, row int, e api.Errno) {
	if len(text) > api.MaxStemma {
		return nil, 0, api.ErrLong
	}
	var r reader
	if row := basics.Rows(text, r.row, r.ended); row != 0 {
		return nil, row, api.ErrShape
	}
	if e := Check(r.copies); e != api.OK {
		return nil, 0, e
	}
	return r.copies, 0, api.OK
}

// The parts of a list, in their order.
const (
	partPlaces = iota
	partCopies
	partEnd
)

// reader is the copies as far as their list was read, how many places they have, and the part of the list to which the next row belongs.
type reader struct {
	copies []api.Copy
	places int
	part   int
}

func (r *reader) ended() bool { return r.part == partEnd }

// row reads one row, given as its words; it returns false if the row is not as said.
func (r *reader) row(words []string) bool {
	last := len(words) - 1
	number, ok := basics.Number(words[last], maxDigits)
	begin := strings.Join(words[:last], " ")
	switch {
	case !ok:
		return false
	case r.part == partPlaces:
		r.places, r.part = number, partCopies
		return begin == wordPlaces
	case r.part == partCopies && begin == wordCopies:
		r.part = partEnd
		return number == len(r.copies)
	}
	return r.part == partCopies && r.copyOf(words[:last], number)
}

// copyOf reads the words of a copy that are ahead of its errors.
func (r *reader) copyOf(words []string, errors int) bool {
	if len(words) != 2 || words[0] != wordSaw && words[0] != wordHad || len(words[1]) != r.places {
		return false
	}
	r.copies = append(r.copies, api.Copy{Text: words[1], Errors: errors, Saw: words[0] == wordSaw})
	return true
}
