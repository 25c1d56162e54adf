// Package basics has what the checks and the readers of several layers share.
package basics

import (
	"strings"

	"cippus/api"
)

// Outside reports whether a number is less than low or greater than high.
func Outside(n, low, high int) bool { return n < low || n > high }

// Count returns ErrFew for less than low things, ErrMany for more than high.
func Count(n, low, high int) api.Errno {
	switch {
	case n < low:
		return api.ErrFew
	case n > high:
		return api.ErrMany
	}
	return api.OK
}

// Span returns ErrBounds for a span that goes beyond low or high, ErrSequence for one that ends before it begins.
func Span(s api.Span, low, high int) api.Errno {
	switch {
	case Outside(s.Low, low, high) || Outside(s.High, low, high):
		return api.ErrBounds
	case s.Low > s.High:
		return api.ErrSequence
	}
	return api.OK
}

// Number reads a decimal number of at most so many digits, without a sign and needless zeros. It returns 0 with false.
func Number(word string, digits int) (int, bool) {
	if word == "" || len(word) > digits || word[0] == '0' && word != "0" {
		return 0, false
	}
	n := 0
	for i := range len(word) {
		if Outside(int(word[i]), '0', '9') {
			return 0, false
		}
		n = 10*n + int(word[i]-'0')
	}
	return n, true
}

// Signed reads a number that has a - ahead if it is below 0. It returns 0 with false.
func Signed(word string, digits int) (int, bool) {
	digit, below := strings.CutPrefix(word, "-")
	n, ok := Number(digit, digits)
	if !below {
		return n, ok
	}
	return -n, ok && n != 0
}

// Rows has a text read row by row, each given as its words, which are separated by one blank. It returns the number of the first row (from 1 on) that is not ended by a line feed, or that read refuses; the number of the row after the last one if the text has not ended with it; otherwise 0.
func Rows(text string, read func(words []string) bool, ended func() bool) int {
	row := 1
	for text != "" {
		words, after, whole := strings.Cut(text, "\n")
		if !whole || !read(strings.Split(words, " ")) {
			return row
		}
		text = after
		row++
	}
	if !ended() {
		return row
	}
	return 0
}

// IsLetter reports whether a byte is a letter.
func IsLetter(c byte) bool { return 'A' <= c && c <= 'Z' }

// AllLetters reports whether a text has letters alone.
func AllLetters(text string) bool {
	for i := range len(text) {
		if !IsLetter(text[i]) {
			return false
		}
	}
	return true
}

// Ascending reports whether a text has letters alone, each of which comes later in the alphabet than the one ahead of it.
func Ascending(text string) bool {
	for i := 1; i < len(text); i++ {
		if text[i] <= text[i-1] {
			return false
		}
	}
	return AllLetters(text)
}
