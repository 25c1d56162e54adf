package basics

import (
	"math"
	"strings"
	"testing"

	"cippus/api"
)

func TestNumber(t *testing.T) {
	for word, want := range map[string]int{"0": 0, "7": 7, "10": 10, "999": 999, "9999": 9999} {
		if n, ok := Number(word, 4); n != want || !ok {
			t.Error(word, n, ok)
		}
	}
	for _, word := range []string{"", "00", "01", "-1", "-0", "+1", "1.", "1 ", " 1", "1a", "a", "/", ":", "1:", "1/", "10000", "12345678901234567890", "\xd9\xa1"} {
		if n, ok := Number(word, 4); n != 0 || ok {
			t.Error(word, n, ok)
		}
	}
}

func TestDigits(t *testing.T) {
	for i, c := range []struct {
		word         string
		digits, want int
		ok           bool
	}{{"9", 1, 9, true}, {"10", 1, 0, false}, {"99999", 5, 99999, true}, {"100000", 5, 0, false}, {"10000", 5, 10000, true}, {"01000", 5, 0, false}} {
		if n, ok := Number(c.word, c.digits); n != c.want || ok != c.ok {
			t.Error(i, n, ok)
		}
	}
}

func TestSigned(t *testing.T) {
	for word, want := range map[string]int{"0": 0, "7": 7, "-7": -7, "10": 10, "-10": -10, "9999": 9999, "-9999": -9999, "-1": -1} {
		if n, ok := Signed(word, 4); n != want || !ok {
			t.Error(word, n, ok)
		}
	}
	for _, word := range []string{"", "-", "--", "--1", "-0", "-00", "-01", "00", "01", "+1", "-+1", "- 1", "1-", "-1-", "-x", "x", "10000", "-10000", "-1 ", "\u22121", "-12345678901234567890"} {
		if n, ok := Signed(word, 4); n != 0 || ok {
			t.Error(word, n, ok)
		}
	}
}

func TestRows(t *testing.T) {
	for text, want := range map[string]int{
		"end\n": 0, "a\nend\n": 0, "a b\n\n c \nend\n": 0, "": 1, "a\n": 2, "a\nb\n": 3, "end": 1, "a\nend": 2, "a": 1, "a\n\n\n": 4,
		"no\nend\n": 1, "a\nno\nno\n": 2, "a\nno": 2, "end\nno\n": 2, "end\na": 2, "end\na\n": 3, "end\na\nend\n": 0, "\nend \n": 3, "no thing\n": 1, "nothing\nend\n": 0,
	} {
		var rows []string
		last := ""
		got := Rows(text, func(words []string) bool {
			last = strings.Join(words, " ")
			rows = append(rows, last)
			return words[0] != "no"
		}, func() bool { return last == "end" })
		if got != want || !strings.HasPrefix(text, strings.Join(rows, "\n")) || got == 0 && strings.Join(rows, "\n")+"\n" != text {
			t.Errorf("%q: %d, not %d, %q", text, got, want, rows)
		}
	}
}

func TestCount(t *testing.T) {
	for n, want := range map[int]api.Errno{math.MinInt: api.ErrFew, 1: api.ErrFew, 2: api.OK, 3: api.OK, 4: api.OK, 5: api.ErrMany, math.MaxInt: api.ErrMany} {
		if e := Count(n, 2, 4); e != want || Outside(n, 2, 4) != (want != api.OK) {
			t.Error(n, e, Outside(n, 2, 4))
		}
	}
}

func TestSpan(t *testing.T) {
	for s, want := range map[api.Span]api.Errno{
		{Low: 2, High: 4}: api.OK, {Low: 2, High: 2}: api.OK, {Low: 4, High: 4}: api.OK, {Low: 3, High: 2}: api.ErrSequence, {Low: 4, High: 2}: api.ErrSequence,
		{Low: 1, High: 4}: api.ErrBounds, {Low: 2, High: 5}: api.ErrBounds, {Low: 5, High: 2}: api.ErrBounds, {Low: 4, High: 1}: api.ErrBounds, {Low: math.MinInt, High: math.MaxInt}: api.ErrBounds,
	} {
		if e := Span(s, 2, 4); e != want {
			t.Error(s, e)
		}
	}
}

func TestLetters(t *testing.T) {
	for text, want := range map[string][2]bool{
		"": {true, true}, "A": {true, true}, "AZ": {true, true}, "ABCDEFGHIJKLMNOPQRSTUVWXYZ": {true, true}, "AA": {true, false}, "BA": {true, false}, "ABA": {true, false}, "ACB": {true, false},
		"a": {}, "@": {}, "[": {}, "A[": {}, "@A": {}, "A-": {}, " ": {}, "A B": {}, "\xff": {}, "A\u0100": {}, "A\n": {},
	} {
		if all, ascending := AllLetters(text), Ascending(text); all != want[0] || ascending != want[1] {
			t.Errorf("%q: %v %v", text, all, ascending)
		}
	}
}
