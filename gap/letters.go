package gap

import (
	"math/bits"

	"cippus/api"
)

// alphabet is how many letters there are.
const alphabet = 26

// letters is a set of letters: 1 for A, 2 for B, 4 for C, and so on, together.
type letters uint32

// anyLetter is the set of all letters.
const anyLetter letters = 1<<alphabet - 1

// lettersOf returns the set of the letters of a text.
func lettersOf(text string) letters {
	var set letters
	for i := range len(text) {
		set |= 1 << (text[i] - 'A')
	}
	return set
}

// has reports whether a letter is in the set.
func (l letters) has(letter byte) bool { return l>>(letter-'A')&1 == 1 }

// sure reports whether the set has just one letter.
func (l letters) sure() bool { return bits.OnesCount32(uint32(l)) == 1 }

// text returns the letters of the set, ascending.
func (l letters) text() string {
	text := ""
	for letter := byte('A'); letter <= 'Z'; letter++ {
		if l.has(letter) {
			text += string(rune(letter))
		}
	}
	return text
}

// fitting returns the letters that may be in a cell.
func fitting(cell api.Cell) letters {
	if cell.Letters == "" {
		return anyLetter
	}
	return lettersOf(cell.Letters)
}

// each returns what a question tells of each element of a list.
func each[S, T any](list []S, question func(S) T) []T {
	var told []T
	for _, element := range list {
		told = append(told, question(element))
	}
	return told
}

// widths is how wide the letters from A to Z are.
type widths [alphabet]api.Span

// widthsOf returns those of a lexicon that is valid.
func widthsOf(x api.Lexicon) widths {
	var wide widths
	copy(wide[:], x.Widths)
	return wide
}

// of returns how wide the letters of a text are together.
func (w widths) of(text string) api.Span {
	var wide api.Span
	for i := range len(text) {
		wide = sum(wide, w[text[i]-'A'])
	}
	return wide
}

func sum(a, b api.Span) api.Span { return api.Span{Low: a.Low + b.Low, High: a.High + b.High} }

// fits reports whether what is so wide may be in a cell. A square, the Width of which is 0..0, has no width to be filled.
func fits(wide, cell api.Span) bool { return wide.Low <= cell.High && wide.High >= cell.Low }
