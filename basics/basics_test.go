package basics

import (
	"math"
	"testing"

	"cippus/api"
)

func TestNumber(t *testing.T) {
	for word, want := range map[string]int{"0": 0, "7": 7, "10": 10, "999": 999, "9999": 9999} {
		if n, ok := Number(word); n != want || !ok {
			t.Error(word, n, ok)
		}
	}
	for _, word := range []string{"", "00", "01", "-1", "-0", "+1", "1.", "1 ", " 1", "1a", "a", "/", ":", "1:", "1/", "10000", "12345678901234567890", "\xd9\xa1"} {
		if n, ok := Number(word); n != 0 || ok {
			t.Error(word, n, ok)
		}
	}
}

func TestCount(t *testing.T) {
	for n, want := range map[int]api.Errno{math.MinInt: api.ErrFew, 1: api.ErrFew, 2: api.OK, 3: api.OK, 4: api.OK, 5: api.ErrMany, math.MaxInt: api.ErrMany} {
		if e := Count(n, 2, 4); e != want || Outside(n, 2, 4) != (want != api.OK) {
			t.Error(n, e, Outside(n, 2, 4))
		}
	}
}
