package edition

import (
	"strings"

	"cippus/api"
	"cippus/basics"
)

// maxDigits is how many digits a number of a text has at most.
const maxDigits = 4

// The words with which the rows of a text begin; the colon is followed at once by a line.
const (
	wordBooks = "books"
	wordSlab  = "slab"
	wordLine  = ":"
	wordEnd   = "end"
)

// between is what is between two words of a row.
const between = " "

// Write returns the text of an edition.
func Write(d api.Edition) (string, api.Errno) {
	if e := CheckAll(d); e != api.OK {
		return "", e
	}
	var text strings.Builder
	text.WriteString(row(wordBooks, d.Books))
	for _, s := range d.Slabs {
		text.WriteString(row(wordSlab, s.Numbers...))
		for _, line := range s.Lines {
			text.WriteString(wordLine + line + "\n")
		}
	}
	text.WriteString(wordEnd + "\n")
	return text.String(), api.OK
}

// row returns a row of a word and numbers.
func row(word string, numbers ...int) string {
	return word + between + basics.Decimal(between, numbers...) + "\n"
}

// Read returns the edition of a text; with ErrShape for a row that is not as said, its number.
func Read(text string) (d api.Edition, row int, e api.Errno) {
	if len(text) > api.MaxEdition {
		return api.Edition{}, 0, api.ErrLong
	}
	r := newReader()
	if row := basics.Lines(text, r.row, r.ended); row != 0 {
		return api.Edition{}, row, api.ErrShape
	}
	if e := CheckAll(r.edition); e != api.OK {
		return api.Edition{}, 0, e
	}
	return r.edition, 0, api.OK
}

// reader is an edition as far as it was read, and what takes the row that comes next, by the word with which it begins.
type reader struct {
	edition api.Edition
	takers  map[string]func(words []string) bool
}

func newReader() *reader {
	r := &reader{}
	r.takers = map[string]func([]string) bool{wordBooks: r.books}
	return r
}

func (r *reader) ended() bool { return len(r.takers) == 0 }

// row reads one row; it returns false if the row is not as said.
func (r *reader) row(row string) bool {
	words := wordsOf(row)
	take, ok := r.takers[words[0]]
	return ok && take(words[1:])
}

// wordsOf returns the words of a row; all that is behind a colon is one word.
func wordsOf(row string) []string {
	if line, ok := strings.CutPrefix(row, wordLine); ok {
		return []string{wordLine, line}
	}
	return strings.Split(row, between)
}

func (r *reader) books(words []string) bool {
	n, ok := numbersOf(words)
	if !ok || len(n) != 1 {
		return false
	}
	r.edition.Books = n[0]
	r.takers = map[string]func([]string) bool{wordSlab: r.slab, wordEnd: r.end}
	return true
}

func (r *reader) slab(words []string) bool {
	n, ok := numbersOf(words)
	if !ok || len(n) == 0 {
		return false
	}
	r.edition.Slabs = append(r.edition.Slabs, api.Slab{Numbers: n})
	r.takers[wordLine] = r.line
	return true
}

func (r *reader) line(words []string) bool {
	slab := &r.edition.Slabs[len(r.edition.Slabs)-1]
	slab.Lines = append(slab.Lines, words...)
	return true
}

func (r *reader) end(words []string) bool {
	r.takers = nil
	return len(words) == 0
}

// numbersOf reads words that are numbers. It returns nil with false.
func numbersOf(words []string) ([]int, bool) {
	var numbers []int
	for _, word := range words {
		n, ok := basics.Number(word, maxDigits)
		if !ok {
			return nil, false
		}
		numbers = append(numbers, n)
	}
	return numbers, true
}
