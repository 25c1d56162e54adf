package forge

import (
	"strconv"
	"strings"

	"cippus/api"
	"cippus/basics"
)

// maxDigits is how many digits a number of a dossier has at most, without its sign.
const maxDigits = 5

// What is between the parts of a line, and between the traits that a case shows.
const (
	slash = "/"
	blank = " "
)

// What is written for a case that shows no trait, and for one that was dug out.
const (
	wordNone   = "*"
	wordGround = "ground"
)

// The sorts of lines, in their order, and what is behind the last one.
const (
	sortHead = iota
	sortTrait
	sortCase
	sortShut
	nothing
)

// begin is the word with which the lines of a sort begin, and how many parts are behind it.
type begin struct {
	word  string
	parts int
}

// begins has what the sorts of lines begin with, in their order.
var begins = [nothing]begin{{"dossier", 3}, {"trait", 6}, {"case", 6}, {"shut", 0}}

// Write returns a dossier as a string.
func Write(d api.Dossier) (string, api.Errno) {
	if e := Check(d); e != api.OK {
		return "", e
	}
	var text strings.Builder
	text.WriteString(line(sortHead, basics.Decimal(slash, d.Begin, d.Most, d.Shops)))
	for _, t := range d.Traits {
		text.WriteString(line(sortTrait, basics.Decimal(slash, t.From.Low, t.From.High, t.Until.Low, t.Until.High, t.Known.Low, t.Known.High)))
	}
	for _, c := range d.Cases {
		years := basics.Decimal(slash, c.Cut.Low, c.Cut.High, c.Seen.Low, c.Seen.High)
		text.WriteString(line(sortCase, showsText(c.Shows), years, shopText(c.Shop)))
	}
	text.WriteString(line(sortShut))
	return text.String(), api.OK
}

// line returns a line of a sort, with all that is behind its word.
func line(sort int, texts ...string) string {
	return strings.Join(append([]string{begins[sort].word}, texts...), slash) + "\n"
}

func showsText(shows []int) string {
	if len(shows) == 0 {
		return wordNone
	}
	return basics.Decimal(blank, shows...)
}

func shopText(shop int) string {
	if shop == ground {
		return wordGround
	}
	return strconv.Itoa(shop)
}

// Read returns the dossier of a text; with ErrShape for a line that is not as said, its number.
func Read(text string) (d api.Dossier, line int, e api.Errno) {
	if len(text) > api.MaxDossier {
		return api.Dossier{}, 0, api.ErrLong
	}
	var r reader
	if line := basics.Lines(text, r.line, r.ended); line != 0 {
		return api.Dossier{}, line, api.ErrShape
	}
	if e := Check(r.dossier); e != api.OK {
		return api.Dossier{}, 0, e
	}
	return r.dossier, 0, api.OK
}

// reader is a dossier as far as it was read, and the sort of the line that comes next; from traits on, it may be a later sort, too.
type reader struct {
	dossier api.Dossier
	next    int
}

func (r *reader) ended() bool { return r.next == nothing }

// line reads one line; it returns false if the line is not as said.
func (r *reader) line(line string) bool {
	parts := strings.Split(line, slash)
	sort, ok := r.sortOf(parts[0], len(parts)-1)
	if !ok {
		return false
	}
	r.next = sort
	switch sort {
	case sortHead:
		return r.readHead(parts[1:])
	case sortTrait:
		return r.readTrait(parts[1:])
	case sortCase:
		return r.readCase(parts[1:])
	}
	r.next = nothing
	return true
}

// sortOf returns the sort of a line that begins with a word and has so many parts behind it; false if it may not come next.
func (r *reader) sortOf(word string, parts int) (int, bool) {
	for sort, b := range begins {
		if b.word == word && b.parts == parts {
			return sort, sort == r.next || sort > r.next && r.next != sortHead
		}
	}
	return 0, false
}

func (r *reader) readHead(parts []string) bool {
	n, ok := basics.AllSigned(parts, maxDigits)
	if !ok {
		return false
	}
	r.dossier.Begin, r.dossier.Most, r.dossier.Shops = n[0], n[1], n[2]
	r.next = sortTrait
	return true
}

func (r *reader) readTrait(parts []string) bool {
	n, ok := basics.AllSigned(parts, maxDigits)
	if !ok {
		return false
	}
	r.dossier.Traits = append(r.dossier.Traits, api.Trait{From: basics.SpanOf(n), Until: basics.SpanOf(n[2:]), Known: basics.SpanOf(n[4:])})
	return true
}

func (r *reader) readCase(parts []string) bool {
	last := len(parts) - 1
	shows, first := readShows(parts[0])
	n, second := basics.AllSigned(parts[1:last], maxDigits)
	shop, third := readShop(parts[last])
	if !first || !second || !third {
		return false
	}
	r.dossier.Cases = append(r.dossier.Cases, api.Case{Shows: shows, Cut: basics.SpanOf(n), Seen: basics.SpanOf(n[2:]), Shop: shop})
	return true
}

func readShows(part string) ([]int, bool) {
	if part == wordNone {
		return nil, true
	}
	return basics.AllSigned(strings.Split(part, blank), maxDigits)
}

func readShop(part string) (int, bool) {
	if part == wordGround {
		return ground, true
	}
	return basics.Number(part, maxDigits)
}
