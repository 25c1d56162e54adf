package basics

import (
	"math"
	"reflect"
	"slices"
	"strings"
	"testing"

	"cippus/api"
)

func TestNumber(t *testing.T) {
	for word, want := range map[string]int{"0": 0, "7": 7, "10": 10, "999": 999, "9999": 9999} {
		if n, ok := Number(word, 4); n != want || !ok {
			t.Error(word, n, ok)
		}
	}
	for _, word := range []string{"", "00", "01", "-1", "-0", "+1", "1.", "1 ", " 1", "1a", "a", "/", ":", "1:", "1/", "10000", "12345678901234567890", "\xd9\xa1"} {
		if n, ok := Number(word, 4); n != 0 || ok {
			t.Error(word, n, ok)
		}
	}
}

func TestDigits(t *testing.T) {
	for i, c := range []struct {
		word         string
		digits, want int
		ok           bool
	}{{"9", 1, 9, true}, {"10", 1, 0, false}, {"99999", 5, 99999, true}, {"100000", 5, 0, false}, {"10000", 5, 10000, true}, {"01000", 5, 0, false}} {
		if n, ok := Number(c.word, c.digits); n != c.want || ok != c.ok {
			t.Error(i, n, ok)
		}
	}
}

func TestSigned(t *testing.T) {
	for word, want := range map[string]int{"0": 0, "7": 7, "-7": -7, "10": 10, "-10": -10, "9999": 9999, "-9999": -9999, "-1": -1} {
		if n, ok := Signed(word, 4); n != want || !ok {
			t.Error(word, n, ok)
		}
	}
	for _, word := range []string{"", "-", "--", "--1", "-0", "-00", "-01", "00", "01", "+1", "-+1", "- 1", "1-", "-1-", "-x", "x", "10000", "-10000", "-1 ", "\u22121", "-12345678901234567890"} {
		if n, ok := Signed(word, 4); n != 0 || ok {
			t.Error(word, n, ok)
		}
	}
}

func TestAllSigned(t *testing.T) {
	for text, want := range map[string][]int{"0": {0}, "7 -7 0": {7, -7, 0}, "99 -99": {99, -99}} {
		if n, ok := AllSigned(strings.Fields(text), 2); !slices.Equal(n, want) || !ok {
			t.Error(text, n, ok)
		}
	}
	if n, ok := AllSigned(nil, 2); n != nil || !ok {
		t.Error(n, ok)
	}
	for _, words := range [][]string{{""}, {"1", ""}, {"1", "-0", "2"}, {"100"}, {"1", "2", "-100"}, {"x", "1"}} {
		if n, ok := AllSigned(words, 2); n != nil || ok {
			t.Error(words, n, ok)
		}
	}
	if s := SpanOf([]int{-7, 9, 5}); s != (api.Span{Low: -7, High: 9}) {
		t.Error(s)
	}
}

func TestDecimal(t *testing.T) {
	for want, numbers := range map[string][]int{"": nil, "0": {0}, "-7": {-7}, "1, 2": {1, 2}, "10, -10, 0, 9999": {10, -10, 0, 9999}, "-9223372036854775808, 9223372036854775807": {math.MinInt, math.MaxInt}} {
		if s := Decimal(", ", numbers...); s != want {
			t.Errorf("%q, not %q", s, want)
		}
	}
	if s := Decimal("", 1, 0, 1); s != "101" {
		t.Error(s)
	}
}

// TestLines has rows with a sign that Rows would part.
func TestLines(t *testing.T) {
	var rows []string
	read := func(row string) bool {
		rows = append(rows, row)
		return row != "no, no"
	}
	for text, want := range map[string]int{"a b, c\n\nend\n": 0, "": 0, "a, b": 1, "a\nb": 2, "no, no\n": 1, "a\nno, no\nb": 2} {
		rows = nil
		if got := Lines(text, read, func() bool { return true }); got != want || !strings.HasPrefix(text, strings.Join(rows, "\n")) {
			t.Errorf("%q: %d, not %d, %q", text, got, want, rows)
		}
		rows = nil
		if got := Lines(text, read, func() bool { return false }); want == 0 && got != strings.Count(text, "\n")+1 || want != 0 && got != want {
			t.Errorf("%q: %d", text, got)
		}
	}
}

func TestRows(t *testing.T) {
	for text, want := range map[string]int{
		"end\n": 0, "a\nend\n": 0, "a b\n\n c \nend\n": 0, "": 1, "a\n": 2, "a\nb\n": 3, "end": 1, "a\nend": 2, "a": 1, "a\n\n\n": 4,
		"no\nend\n": 1, "a\nno\nno\n": 2, "a\nno": 2, "end\nno\n": 2, "end\na": 2, "end\na\n": 3, "end\na\nend\n": 0, "\nend \n": 3, "no thing\n": 1, "nothing\nend\n": 0,
	} {
		var rows []string
		last := ""
		got := Rows(text, func(words []string) bool {
			last = strings.Join(words, " ")
			rows = append(rows, last)
			return words[0] != "no"
		}, func() bool { return last == "end" })
		if got != want || !strings.HasPrefix(text, strings.Join(rows, "\n")) || got == 0 && strings.Join(rows, "\n")+"\n" != text {
			t.Errorf("%q: %d, not %d, %q", text, got, want, rows)
		}
	}
}

func TestCount(t *testing.T) {
	for n, want := range map[int]api.Errno{math.MinInt: api.ErrFew, 1: api.ErrFew, 2: api.OK, 3: api.OK, 4: api.OK, 5: api.ErrMany, math.MaxInt: api.ErrMany} {
		if e := Count(n, 2, 4); e != want || Outside(n, 2, 4) != (want != api.OK) {
			t.Error(n, e, Outside(n, 2, 4))
		}
	}
}

func TestSpan(t *testing.T) {
	for s, want := range map[api.Span]api.Errno{
		{Low: 2, High: 4}: api.OK, {Low: 2, High: 2}: api.OK, {Low: 4, High: 4}: api.OK, {Low: 3, High: 2}: api.ErrSequence, {Low: 4, High: 2}: api.ErrSequence,
		{Low: 1, High: 4}: api.ErrBounds, {Low: 2, High: 5}: api.ErrBounds, {Low: 5, High: 2}: api.ErrBounds, {Low: 4, High: 1}: api.ErrBounds, {Low: math.MinInt, High: math.MaxInt}: api.ErrBounds,
	} {
		if e := Span(s, 2, 4); e != want {
			t.Error(s, e)
		}
	}
}

func TestYears(t *testing.T) {
	for s, want := range map[api.Span]api.Errno{
		{Low: -3000, High: 3000}: api.OK, {Low: 3000, High: 3000}: api.OK, {Low: -3000, High: -3000}: api.OK, {}: api.OK, {Low: 1, High: 0}: api.ErrSequence,
		{Low: -3001, High: 0}: api.ErrBounds, {Low: 0, High: 3001}: api.ErrBounds, {Low: 3001, High: 0}: api.ErrBounds,
	} {
		if e := Years(s); e != want {
			t.Error(s, e)
		}
	}
}

func TestCommon(t *testing.T) {
	span := func(low, high int) api.Span { return api.Span{Low: low, High: high} }
	for i, c := range []struct{ s, t, want api.Span }{
		{span(1, 5), span(3, 9), span(3, 5)}, {span(1, 9), span(3, 5), span(3, 5)}, {span(1, 3), span(3, 5), span(3, 3)}, {span(1, 2), span(4, 5), span(4, 2)}, {span(-5, 5), span(-5, 5), span(-5, 5)},
	} {
		if a, b := Common(c.s, c.t), Common(c.t, c.s); a != c.want || b != c.want {
			t.Error(i, a, b)
		}
	}
}

func TestJoined(t *testing.T) {
	span := func(low, high int) api.Span { return api.Span{Low: low, High: high} }
	for i, c := range []struct{ s, t, want api.Span }{
		{span(1, 5), span(3, 9), span(1, 9)}, {span(1, 9), span(3, 5), span(1, 9)}, {span(1, 3), span(3, 5), span(1, 5)}, {span(1, 2), span(4, 5), span(1, 5)}, {span(-5, 5), span(-5, 5), span(-5, 5)}, {span(-7, -7), span(-9, -9), span(-9, -7)},
	} {
		if a, b := Joined(c.s, c.t), Joined(c.t, c.s); a != c.want || b != c.want {
			t.Error(i, a, b)
		}
	}
}

func TestVerdict(t *testing.T) {
	if Verdict(true, true) != api.Yes || Verdict(false, true) != api.Open || Verdict(false, false) != api.No {
		t.Error(Verdict(true, true), Verdict(false, true), Verdict(false, false))
	}
}

// TestLists tests that lists come in order, and none twice.
func TestLists(t *testing.T) {
	for size, want := range [][][]int{{nil}, {{0}, {1}, {2}, {3}}, {{0, 1}, {0, 2}, {0, 3}, {1, 2}, {1, 3}, {2, 3}}, {{0, 1, 2}, {0, 1, 3}, {0, 2, 3}, {1, 2, 3}}, {{0, 1, 2, 3}}, nil} {
		if got := slices.Collect(Lists(4, size)); !reflect.DeepEqual(got, want) {
			t.Error(size, got)
		}
	}
	for range Lists(0, 1) {
		t.Error("a list of no numbers")
	}
	for list := range Lists(9, 3) {
		if list = append(list, 7); !slices.Equal(list, []int{0, 1, 2, 7}) {
			t.Error(list)
		}
		break
	}
}

func TestLetters(t *testing.T) {
	for text, want := range map[string][2]bool{
		"": {true, true}, "A": {true, true}, "AZ": {true, true}, "ABCDEFGHIJKLMNOPQRSTUVWXYZ": {true, true}, "AA": {true, false}, "BA": {true, false}, "ABA": {true, false}, "ACB": {true, false},
		"a": {}, "@": {}, "[": {}, "A[": {}, "@A": {}, "A-": {}, " ": {}, "A B": {}, "\xff": {}, "A\u0100": {}, "A\n": {},
	} {
		if all, ascending := AllLetters(text), Ascending(text); all != want[0] || ascending != want[1] {
			t.Errorf("%q: %v %v", text, all, ascending)
		}
	}
}

func TestEdition(t *testing.T) {
	example := func() api.Edition {
		slab := api.Slab{Numbers: append(make([]int, 0, 9), 5, 1), Lines: append(make([]string, 0, 9), "ARMA", "T")}
		return api.Edition{Books: 2, Slabs: []api.Slab{slab, {Numbers: []int{0, 2}, Lines: []string{"CANO"}}}}
	}
	spoil := func(d api.Edition) {
		for i := range d.Slabs {
			clear(d.Slabs[i].Numbers)
			clear(d.Slabs[i].Lines)
		}
		clear(d.Slabs)
	}
	d := example()
	c := Edition(d)
	if !reflect.DeepEqual(c, d) {
		t.Error(c)
	}
	if spoil(c); !reflect.DeepEqual(d, example()) {
		t.Error(d)
	}
	c = Edition(d)
	if spoil(d); !reflect.DeepEqual(c, example()) {
		t.Error(c)
	}
	if x := Edition(api.Edition{}); len(x.Slabs) != 0 || x.Books != 0 {
		t.Error(x)
	}
}
