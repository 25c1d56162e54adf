// Package basics has what the checks and the readers of several layers share.
package basics

import "cippus/api"

// Outside reports whether a number is less than low or greater than high.
func Outside(n, low, high int) bool { return n < low || n > high }

// Count returns ErrFew for less than low things, ErrMany for more than high.
func Count(n, low, high int) api.Errno {
	switch {
	case n < low:
		return api.ErrFew
	case n > high:
		return api.ErrMany
	}
	return api.OK
}

// Span returns ErrBounds for a span that goes beyond low or high, ErrSequence for one that ends before it begins.
func Span(s api.Span, low, high int) api.Errno {
	switch {
	case Outside(s.Low, low, high) || Outside(s.High, low, high):
		return api.ErrBounds
	case s.Low > s.High:
		return api.ErrSequence
	}
	return api.OK
}

// Number reads a decimal number of at most so many digits, without a sign and needless zeros. It returns 0 with false.
func Number(word string, digits int) (int, bool) {
	if word == "" || len(word) > digits || word[0] == '0' && word != "0" {
		return 0, false
	}
	n := 0
	for i := range len(word) {
		if Outside(int(word[i]), '0', '9') {
			return 0, false
		}
		n = 10*n + int(word[i]-'0')
	}
	return n, true
}

// IsLetter reports whether a byte is a letter.
func IsLetter(c byte) bool { return 'A' <= c && c <= 'Z' }

// AllLetters reports whether a text has letters alone.
func AllLetters(text string) bool {
	for i := range len(text) {
		if !IsLetter(text[i]) {
			return false
		}
	}
	return true
}

// Ascending reports whether a text has letters alone, each of which comes later in the alphabet than the one ahead of it.
func Ascending(text string) bool {
	for i := 1; i < len(text); i++ {
		if text[i] <= text[i-1] {
			return false
		}
	}
	return AllLetters(text)
}
