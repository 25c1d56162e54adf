package gap

import (
	"strings"

	"cippus/api"
	"cippus/basics"
)

// mayFollow reports whether a word may be the next one, behind a number of words and the last one of them.
func mayFollow(x api.Lexicon, words, last, word int) bool {
	form := x.Words[word].Form
	switch words {
	case 0:
		return x.First[form]
	case api.MaxWords:
		return false
	}
	return x.Next[x.Words[last].Form][form]
}

// mayEnd reports whether a text may end with a number of words and the last one of them.
func mayEnd(x api.Lexicon, words, last int) bool {
	return words > 0 && x.Last[x.Words[last].Form]
}

// isText reports whether words of the lexicon are a text.
func isText(x api.Lexicon, words []int) bool {
	last := 0
	for i, word := range words {
		if !mayFollow(x, i, last, word) {
			return false
		}
		last = word
	}
	return mayEnd(x, len(words), last)
}

// parts returns the letters that each cell has in a filling, or false if the numbers in it are not one for each gap, or the letters are too few or too many.
func parts(x api.Lexicon, r []api.Cell, f api.Filling) ([]string, bool) {
	text := ""
	for _, word := range f.Words {
		text += x.Words[word].Text
	}
	var all []string
	fills := f.Fills
	for _, cell := range r {
		n := 1
		if cell.Gap {
			if len(fills) == 0 || basics.Outside(fills[0], 0, api.MaxFill) {
				return nil, false
			}
			n, fills = fills[0], fills[1:]
		}
		if n > len(text) {
			return nil, false
		}
		all = append(all, text[:n])
		text = text[n:]
	}
	return all, text == "" && len(fills) == 0
}

// bracketed returns words with those letters in brackets that are not shown.
func bracketed(words []string, shown []bool) string {
	var text strings.Builder
	open := false
	for i, word := range words {
		for j := range len(word) {
			sure := shown[0]
			shown = shown[1:]
			if open && sure {
				text.WriteString("]")
			}
			if i > 0 && j == 0 {
				text.WriteString(" ")
			}
			if !open && !sure {
				text.WriteString("[")
			}
			open = !sure
			text.WriteByte(word[j])
		}
	}
	if open {
		text.WriteString("]")
	}
	return text.String()
}
