package gap

import (
	"slices"
	"strings"
	"testing"

	"cippus/api"
)

func TestWriteP2_6(t *testing.T) {
	for _, c := range []struct {
		r    []api.Cell
		text string
	}{
		{exampleRow(8, 14), "D.S[8-14]S\n"},
		{[]api.Cell{{}}, ".\n"},
		{[]api.Cell{{Letters: "A"}, {Letters: "Z"}, {Letters: "AZ"}}, "AZ(AZ)\n"},
		{[]api.Cell{{Letters: "IL"}, wide(0, 1000), {Letters: everyLetter}}, "(IL)[0-1000](" + everyLetter + ")\n"},
		{[]api.Cell{{Letters: everyLetter[1:]}, {Letters: everyLetter[:25]}}, "(" + everyLetter[1:] + ")(" + everyLetter[:25] + ")\n"},
		{[]api.Cell{wide(0, 0), wide(10, 10), wide(999, 1000)}, "[0-0][10-10][999-1000]\n"},
		{make([]api.Cell, 24), strings.Repeat(".", 24) + "\n"},
		{slices.Repeat([]api.Cell{{Letters: everyLetter}}, 24), strings.Repeat("("+everyLetter+")", 24) + "\n"},
	} {
		text, e := Write(c.r)
		r, at, f := Read(c.text)
		if text != c.text || e != api.OK || f != api.OK || at != 0 || !slices.Equal(r, c.r) {
			t.Error(c.text, text, r, at, e, f)
		}
	}
}

// TestCellsP2_6 has cells that are not as said, ahead of, between and behind others.
func TestCellsP2_6(t *testing.T) {
	for _, bad := range []string{
		"a", " ", "\t", "\r", "\x00", "\xff", "\xc3\x84", "@", "`", "{", "0", "1", "-", "*", ",",
		"(", ")", "()", "(A)", "(AA)", "(BA)", "(ABB)", "(ACB)", "(Ab)", "(A.)", "(.)", "(A B)", "( AB)", "(AB )", "(A,B)", "(AB", "((AB))", "(AB]", "(@A)", "(Z[)", "(A\n)",
		"[", "]", "[]", "[-]", "[1]", "[1-]", "[-1]", "[1-2", "[1-2)", "[1 2]", "[1--2]", "[1-2-3]", "[1-2-]", "[-1-2]", "[+1-2]", "[1-+2]", "[01-2]", "[1-02]", "[00-2]", "[1-00]", "[-0-1]", "[10000-1]", "[1-10000]", "[1-20000000000000000000]", "[a-2]", "[1-b]", "[ 1-2]", "[1 -2]", "[1-2 ]", "[1.5-2]", "[0x1-2]", "[[1-2]]", "[1:2]", "[1-2\n]",
	} {
		for ahead, at := range map[string]int{"": 0, "A": 1, ".": 1, "(AB)": 4, "[1-20]": 6, "AB": 2} {
			for _, behind := range []string{"\n", "A\n", ".\n", "[3-4]\n", "(CD)\n", ""} {
				clearly(t, ahead+bad+behind, at)
			}
		}
	}
}

// clearly tests that the byte of that number is the first one at which something begins that is not as said.
func clearly(t *testing.T, text string, want int) {
	t.Helper()
	if r, at, e := Read(text); at != want || e != api.ErrShape || r != nil {
		t.Errorf("%q: %v %d %v, not %d", text, r, at, e, want)
	}
}

func TestLineFeedsP2_6(t *testing.T) {
	for text, at := range map[string]int{"": 0, "A": 1, ".": 1, "AB": 2, "(AB)": 4, "[1-2]": 5, "A\n\n": 1, "A\nB": 1, "A\nB\n": 1, "\n\n": 0, "\nA\n": 0, "A\r\n": 1, "A \n": 1, "[1-2]\n ": 5, "(AB)\n.": 4, strings.Repeat("A", 30): 30} {
		clearly(t, text, at)
	}
}

// TestReadChecksP2_6 has texts whose cells are as said, of rows that are not valid.
func TestReadChecksP2_6(t *testing.T) {
	for text, want := range map[string]api.Errno{
		"\n":                                     api.ErrFew,
		strings.Repeat(".", 25) + "\n":           api.ErrMany,
		strings.Repeat(".", 24) + "\n":           api.OK,
		"[0-0][0-0][0-0][0-0]\n":                 api.ErrMany,
		"[0-0]A[0-0]B[0-0]\n":                    api.OK,
		"A[1-2000]\n":                            api.ErrBounds,
		"A[1-1001]\n":                            api.ErrBounds,
		"A[1001-1000]\n":                         api.ErrBounds,
		"A[9999-9999]\n":                         api.ErrBounds,
		"A[1000-1000]\n":                         api.OK,
		"A[2-1]\n":                               api.ErrSequence,
		"A[2-1][1-1001]\n":                       api.ErrSequence,
		"[0-0][0-0][0-0][0-0][2-1]\n":            api.ErrMany,
		strings.Repeat("[2-1]", 25) + "\n":       api.ErrMany,
		"(" + everyLetter + ")\n":                api.OK,
		strings.Repeat("[1000-1000]", 3) + ".\n": api.OK,
	} {
		r, at, e := Read(text)
		if at != 0 || e != want || (e != api.OK) != (r == nil) {
			t.Errorf("%q: %v %d %v", text, r, at, e)
		}
	}
}

func TestLongRowsP2_6(t *testing.T) {
	for _, c := range []struct {
		text string
		at   int
		want api.Errno
	}{
		{strings.Repeat("A", 999) + "\n", 0, api.ErrMany},
		{strings.Repeat("A", 1000) + "\n", 0, api.ErrLong},
		{strings.Repeat("A", 1000), 1000, api.ErrShape},
		{strings.Repeat("A", 1001), 0, api.ErrLong},
		{strings.Repeat("x", 1000), 0, api.ErrShape},
		{strings.Repeat("x", 1001), 0, api.ErrLong},
		{strings.Repeat("A", 999) + "x", 999, api.ErrShape},
		{"A\n" + strings.Repeat("\n", 999), 0, api.ErrLong},
	} {
		if r, at, e := Read(c.text); at != c.at || e != c.want || r != nil {
			t.Error(len(c.text), r, at, e)
		}
	}
}
