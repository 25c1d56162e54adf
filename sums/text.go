package sums

import (
	"strconv"
	"strings"

	"cippus/api"
	"cippus/basics"
)

// marks has the mark of each kind of entries, in the order of the kinds.
const marks = "-=#"

// Write returns the text of an account.
func Write(l []api.Entry) (string, api.Errno) {
	if e := Check(l); e != api.OK {
		return "", e
	}
	var text strings.Builder
	text.WriteString("account " + strconv.Itoa(len(l)) + "\n")
	for _, entry := range l {
		mark := marks[entry.Kind-api.EntryItem]
		text.WriteString(string(mark) + " " + entry.Signs + "\n")
	}
	return text.String(), api.OK
}

// Read returns the account of a text; with ErrShape for a row that is not as said, its number.
func Read(text string) (l []api.Entry, row int, e api.Errno) {
	if len(text) > api.MaxAccount {
		return nil, 0, api.ErrLong
	}
	head, rest, ended := strings.Cut(text, "\n")
	many, ok := readHead(head)
	if !ended || !ok {
		return nil, 1, api.ErrShape
	}
	for row = 2; row < many+2; row++ {
		words, after, ended := strings.Cut(rest, "\n")
		entry, ok := readEntry(words)
		if !ended || !ok {
			return nil, row, api.ErrShape
		}
		l = append(l, entry)
		rest = after
	}
	if rest != "" {
		return nil, row, api.ErrShape
	}
	if e := Check(l); e != api.OK {
		return nil, 0, e
	}
	return l, 0, api.OK
}

// readHead returns the number of entries that the first row names.
func readHead(row string) (int, bool) {
	digit, named := strings.CutPrefix(row, "account ")
	n, ok := basics.Number(digit, 1)
	return n, named && ok
}

func readEntry(row string) (api.Entry, bool) {
	mark, signs, _ := strings.Cut(row, " ")
	if len(mark) != 1 || !strings.Contains(marks, mark) || signs == "" || strings.Contains(signs, " ") {
		return api.Entry{}, false
	}
	return api.Entry{Kind: strings.Index(marks, mark) + api.EntryItem, Signs: signs}, true
}
