// Package basics has what the checks and the readers of several layers share.
package basics

import "cippus/api"

// maxDigits is how many digits a written number has at most, in all layers.
const maxDigits = 4

// Outside reports whether a number is less than low or greater than high.
func Outside(n, low, high int) bool { return n < low || n > high }

// Count returns ErrFew for less than low things, ErrMany for more than high.
func Count(n, low, high int) api.Errno {
	switch {
	case n < low:
		return api.ErrFew
	case n > high:
		return api.ErrMany
	}
	return api.OK
}

// Number reads a decimal number without a sign and needless zeros. It returns 0 with false.
func Number(word string) (int, bool) {
	if word == "" || len(word) > maxDigits || word[0] == '0' && word != "0" {
		return 0, false
	}
	n := 0
	for i := range len(word) {
		if Outside(int(word[i]), '0', '9') {
			return 0, false
		}
		n = 10*n + int(word[i]-'0')
	}
	return n, true
}
