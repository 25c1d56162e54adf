package edition

import (
	"iter"
	"strings"

	"cippus/api"
)

// What is printed beside letters.
const (
	traces  = '\''
	blank   = ' '
	free    = '_'
	unknown = '.'
	gap     = "[---]"
)

// pair is a kind of signs that are printed between two brackets, and these.
type pair struct {
	kind       int
	open, shut string
}

// pairs has all kinds that have brackets.
var pairs = [...]pair{
	{api.SignLost, "[", "]"},
	{api.SignAdded, "<", ">"},
	{api.SignSolved, "(", ")"},
	{api.SignExtra, "{", "}"},
	{api.SignErased, "#", "#"},
}

// pairOf returns the brackets of a kind; those of a kind without brackets are empty.
func pairOf(kind int) pair {
	for _, p := range pairs {
		if p.kind == kind {
			return p
		}
	}
	return pair{}
}

// place is a sign of a line, with the signs right ahead of it and right behind it; nothing is ahead of the first one, and behind the last one.
type place struct {
	ahead, sign, behind api.Sign
	first, last         bool
}

// places hands out the signs of a line, with those that come next to them.
func places(line []api.Sign) iter.Seq[place] {
	return func(yield func(place) bool) {
		var ahead api.Sign
		for i, sign := range line {
			p := place{ahead: ahead, sign: sign, first: i == 0, last: i == len(line)-1}
			if !p.last {
				p.behind = line[i+1]
			}
			if !yield(p) {
				return
			}
			ahead = sign
		}
	}
}

// pair returns the brackets between which a sign is printed at its place.
func (p place) pair() pair {
	kind := p.sign.Kind
	if kind == api.SignBlank && p.ahead.Kind == p.behind.Kind {
		kind = p.ahead.Kind
	}
	return pairOf(kind)
}

// Print returns a line as it is printed.
func Print(line []api.Sign) (string, api.Errno) {
	if e := Check(line); e != api.OK {
		return "", e
	}
	var text strings.Builder
	var open pair
	for p := range places(line) {
		if next := p.pair(); next != open {
			text.WriteString(open.shut + next.open)
			open = next
		}
		text.WriteString(printed(p.sign))
	}
	text.WriteString(open.shut)
	return text.String(), api.OK
}

// printed returns a sign as it is printed between its brackets.
func printed(s api.Sign) string {
	switch s.Kind {
	case api.SignDoubt:
		return string(s.Letter) + string(traces)
	case api.SignGap:
		return gap
	case api.SignBlank:
		return string(blank)
	case api.SignFree:
		return string(free)
	}
	return string(s.Letter)
}

// Signs returns the line that is printed so.
func Signs(text string) ([]api.Sign, api.Errno) {
	if len(text) > api.MaxPrinted {
		return nil, api.ErrLong
	}
	line := parse(text)
	// The signs do not tell where brackets were needless, or wrong: only printing them again does.
	if again, e := Print(line); e != api.OK || again != text {
		return nil, api.ErrShape
	}
	return line, api.OK
}

// parse returns the signs of a text, if it is how some line is printed. Of any other text it returns some signs, or none.
func parse(text string) []api.Sign {
	var line []api.Sign
	kind, next := api.SignSure, 0
runes:
	for at, c := range text {
		if at < next {
			continue
		}
		if strings.HasPrefix(text[at:], gap) {
			line = append(line, api.Sign{Kind: api.SignGap})
			next = at + len(gap)
			continue
		}
		for _, p := range pairs {
			switch {
			case kind == p.kind && string(c) == p.shut:
				kind = api.SignSure
				continue runes
			case string(c) == p.open:
				kind = p.kind
				continue runes
			}
		}
		switch last := len(line) - 1; {
		case c == unknown || 'A' <= c && c <= 'Z':
			line = append(line, api.Sign{Kind: kind, Letter: byte(c)})
		case c == traces && last >= 0 && line[last].Kind == api.SignSure:
			line[last].Kind = api.SignDoubt
		case c == blank:
			line = append(line, api.Sign{Kind: api.SignBlank})
		case c == free:
			line = append(line, api.Sign{Kind: api.SignFree})
		default:
			return nil
		}
	}
	return line
}
