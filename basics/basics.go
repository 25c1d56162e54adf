// Package basics has what the checks and the readers of several layers share.
package basics

import (
	"iter"
	"slices"
	"strconv"
	"strings"

	"cippus/api"
)

// Outside reports whether a number is less than low or greater than high.
func Outside(n, low, high int) bool { return n < low || n > high }

// Count returns ErrFew for less than low things, ErrMany for more than high.
func Count(n, low, high int) api.Errno {
	switch {
	case n < low:
		return api.ErrFew
	case n > high:
		return api.ErrMany
	}
	return api.OK
}

// Span returns ErrBounds for a span that goes beyond low or high, ErrSequence for one that ends before it begins.
func Span(s api.Span, low, high int) api.Errno {
	switch {
	case Outside(s.Low, low, high) || Outside(s.High, low, high):
		return api.ErrBounds
	case s.Low > s.High:
		return api.ErrSequence
	}
	return api.OK
}

// Years returns the first error of a span of years.
func Years(s api.Span) api.Errno { return Span(s, -api.MaxYear, api.MaxYear) }

// Common returns the numbers that both spans have. It is empty, Low greater than High, if there is none.
func Common(s, t api.Span) api.Span {
	return api.Span{Low: max(s.Low, t.Low), High: min(s.High, t.High)}
}

// Joined returns the numbers from the least to the greatest one of two spans.
func Joined(s, t api.Span) api.Span {
	return api.Span{Low: min(s.Low, t.Low), High: max(s.High, t.High)}
}

// Verdict tells of all truths, if something is so in all of them, or in some.
func Verdict(always, sometimes bool) int {
	switch {
	case always:
		return api.Yes
	case sometimes:
		return api.Open
	}
	return api.No
}

// Lists hands out all lists of so many of the numbers from 0 to below n, ascending, in lexicographic order.
func Lists(n, size int) iter.Seq[[]int] {
	return func(yield func([]int) bool) {
		var extend func(list []int, next int) bool
		extend = func(list []int, next int) bool {
			if len(list) == size {
				return yield(slices.Clone(list))
			}
			for i := next; i < n; i++ {
				if !extend(append(list, i), i+1) {
					return false
				}
			}
			return true
		}
		extend(nil, 0)
	}
}

// Number reads a decimal number of at most so many digits, without a sign and needless zeros. It returns 0 with false.
func Number(word string, digits int) (int, bool) {
	if word == "" || len(word) > digits || word[0] == '0' && word != "0" {
		return 0, false
	}
	n := 0
	for i := range len(word) {
		if Outside(int(word[i]), '0', '9') {
			return 0, false
		}
		n = 10*n + int(word[i]-'0')
	}
	return n, true
}

// Signed reads a number that has a - ahead if it is below 0. It returns 0 with false.
func Signed(word string, digits int) (int, bool) {
	digit, below := strings.CutPrefix(word, "-")
	n, ok := Number(digit, digits)
	if !below {
		return n, ok
	}
	return -n, ok && n != 0
}

// AllSigned reads words that are numbers with a - ahead if they are below 0. It returns nil with false.
func AllSigned(words []string, digits int) ([]int, bool) {
	var numbers []int
	for _, word := range words {
		n, ok := Signed(word, digits)
		if !ok {
			return nil, false
		}
		numbers = append(numbers, n)
	}
	return numbers, true
}

// Decimal returns some numbers, with a separator between each two.
func Decimal(separator string, numbers ...int) string {
	var words []string
	for _, n := range numbers {
		words = append(words, strconv.Itoa(n))
	}
	return strings.Join(words, separator)
}

// SpanOf returns the span of the first two of some numbers.
func SpanOf(numbers []int) api.Span { return api.Span{Low: numbers[0], High: numbers[1]} }

// Rows has a text read row by row, each given as its words, which are separated by one blank. It returns what Lines returns.
func Rows(text string, read func(words []string) bool, ended func() bool) int {
	return Lines(text, func(row string) bool { return read(strings.Split(row, " ")) }, ended)
}

// Lines has a text read row by row. It returns the number of the first row (from 1 on) that is not ended by a line feed, or that read refuses; the number of the row after the last one if the text has not ended with it; otherwise 0.
func Lines(text string, read func(row string) bool, ended func() bool) int {
	row := 1
	for text != "" {
		first, after, whole := strings.Cut(text, "\n")
		if !whole || !read(first) {
			return row
		}
		text = after
		row++
	}
	if !ended() {
		return row
	}
	return 0
}

// IsLetter reports whether a byte is a letter.
func IsLetter(c byte) bool { return 'A' <= c && c <= 'Z' }

// AllLetters reports whether a text has letters alone.
func AllLetters(text string) bool {
	for i := range len(text) {
		if !IsLetter(text[i]) {
			return false
		}
	}
	return true
}

// Ascending reports whether a text has letters alone, each of which comes later in the alphabet than the one ahead of it.
func Ascending(text string) bool {
	for i := 1; i < len(text); i++ {
		if text[i] <= text[i-1] {
			return false
		}
	}
	return AllLetters(text)
}

// Edition returns an edition that shares no memory with d.
func Edition(d api.Edition) api.Edition {
	d.Slabs = slices.Clone(d.Slabs)
	for i, s := range d.Slabs {
		d.Slabs[i] = api.Slab{Numbers: slices.Clone(s.Numbers), Lines: slices.Clone(s.Lines)}
	}
	return d
}
