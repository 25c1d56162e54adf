package sums

import (
	"iter"
	"strings"

	"cippus/api"
	"cippus/basics"
)

// sign is a sign of numerals, its value, and how many of it a numeral has at most.
type sign struct {
	letter      byte
	value, most int
}

// signCount is how many signs there are.
const signCount = 7

// signs has the greatest one first, as a numeral has.
var signs = [signCount]sign{
	{'M', 1000, 4}, {'D', 500, 1}, {'C', 100, 4}, {'L', 50, 1}, {'X', 10, 4}, {'V', 5, 1}, {'I', 1, 4},
}

// lost is what stands for a sign that is lost.
const lost = '?'

// place returns where a sign is among all signs.
func place(letter rune) (int, bool) {
	for i, s := range signs {
		if rune(s.letter) == letter {
			return i, true
		}
	}
	return 0, false
}

// tally is how many of each sign there are at the beginning of a numeral.
type tally [signCount]int

// followed returns the tally with the sign at i once more, behind all others; false if no numeral begins so.
func (t tally) followed(i int) (tally, bool) {
	for _, lesser := range t[i+1:] {
		if lesser > 0 {
			return tally{}, false
		}
	}
	t[i]++
	return t, t[i] <= signs[i].most
}

func (t tally) value() int {
	sum := 0
	for i, many := range t {
		sum += many * signs[i].value
	}
	return sum
}

// Number returns the value of a numeral.
func Number(numeral string) (int, api.Errno) {
	if numeral == "" {
		return 0, api.ErrShape
	}
	var t tally
	for _, letter := range numeral {
		i, known := place(letter)
		longer, ok := t.followed(i)
		if !known || !ok {
			return 0, api.ErrShape
		}
		t = longer
	}
	return t.value(), api.OK
}

// Numeral returns the numeral of a number.
func Numeral(n int) (string, api.Errno) {
	if basics.Outside(n, 1, api.MaxValue) {
		return "", api.ErrBounds
	}
	var numeral strings.Builder
	for _, s := range signs {
		for n >= s.value {
			numeral.WriteByte(s.letter)
			n -= s.value
		}
	}
	return numeral.String(), api.OK
}

// fitting hands out the numbers whose numerals fit the signs of an entry. They ascend, because all that may stand behind a sign is worth less than the next greater sign.
func fitting(text string) iter.Seq[int] {
	return func(yield func(int) bool) {
		var extend func(t tally, rest string) bool
		extend = func(t tally, rest string) bool {
			if rest == "" {
				return yield(t.value())
			}
			for i := signCount - 1; i >= 0; i-- {
				if rest[0] != lost && rest[0] != signs[i].letter {
					continue
				}
				if longer, ok := t.followed(i); ok && !extend(longer, rest[1:]) {
					return false
				}
			}
			return true
		}
		extend(tally{}, text)
	}
}
