package editor

import (
	"iter"
	"strings"

	"cippus/api"
	"cippus/basics"
)

// digits is how many digits a number of a line has at most.
const digits = 4

// done is the reply to a change.
type done struct{}

// verdict is the reply that tells whether something is so.
type verdict int

// order is the words of a line behind the first one.
type order []string

// checkBook returns the first error of a book.
func checkBook(book string) api.Errno {
	switch {
	case len(book) > api.MaxWork:
		return api.ErrLong
	case book != "" && !strings.HasSuffix(book, "\n"):
		return api.ErrShape
	case strings.Count(book, "\n") > api.MaxTasks:
		return api.ErrMany
	}
	return api.OK
}

// lines hands out the lines of a book, without their line feeds.
func lines(book string) iter.Seq[string] {
	return func(yield func(line string) bool) {
		line, after, more := strings.Cut(book, "\n")
		for more && yield(line) {
			line, after, more = strings.Cut(after, "\n")
		}
	}
}

// commands returns what is done with the line of each word.
func commands() map[string]func(x *editor, o order) any {
	return map[string]func(x *editor, o order) any{
		"fix":      (*editor).fix,
		"renumber": (*editor).renumber,
		"span":     (*editor).span,
		"after":    (*editor).after,
		"held":     (*editor).held,
		"kin":      (*editor).kin,
		"shows":    (*editor).shows,
		"claim":    (*editor).claim,
		"find":     (*editor).find,
		"stone":    (*editor).stone,
		"words":    (*editor).words,
		"years":    (*editor).years,
		"life":     (*editor).life,
		"trial":    (*editor).trial,
		"why":      (*editor).why,
		"fill":     (*editor).fill,
	}
}

// replied returns the editor after a line, and the reply. The line is tried on a copy: one that is refused leaves nothing behind, whatever it had changed before.
func (x editor) replied(line string) (next editor, reply any) {
	next = x
	next.Desk = copied(x.Desk)
	if e := tried(func() { reply = next.obey(line) }); e != api.OK {
		return x, e
	}
	return next, reply
}

// obey does what a line says, and returns the reply.
func (x *editor) obey(line string) any {
	words := strings.Split(line, " ")
	command, found := commands()[words[0]]
	must(found, api.ErrShape)
	return command(x, words[1:])
}

// numbers returns the words of an order as so many numbers.
func (o order) numbers(many int) []int {
	n, right := basics.AllSigned(o, digits)
	must(right && len(n) == many, api.ErrShape)
	return n
}

// said puts a reply together.
func said(reply any) string {
	switch r := reply.(type) {
	case api.Errno:
		return "error " + said(int(r))
	case int:
		return basics.Decimal("", r)
	case []int:
		return basics.Decimal(" ", r...)
	case string:
		return r
	case verdict:
		return r.word()
	}
	return "ok"
}

func (v verdict) word() string {
	switch v {
	case api.Yes:
		return "yes"
	case api.No:
		return "no"
	}
	return "open"
}

// ends returns both numbers of some spans.
func ends(spans ...api.Span) []int {
	var list []int
	for _, s := range spans {
		list = append(list, s.Low, s.High)
	}
	return list
}
