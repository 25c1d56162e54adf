package sums

import (
	"slices"
	"strings"
	"testing"

	"cippus/api"
)

func TestWriteP3_5(t *testing.T) {
	for text, l := range map[string][]api.Entry{
		"account 3\n- X?\n- V??\n= XX?I\n":                     of("- X?", "- V??", "= XX?I"),
		"account 1\n- I\n":                                     of("- I"),
		"account 1\n# ?????\n":                                 of("# ?????"),
		"account 3\n= X\n- " + most + "\n# VII\n":              of("= X", "- "+most, "# VII"),
		"account 8\n" + strings.Repeat("# "+most+"\n", 8):      slices.Repeat(of("# "+most), 8),
		"account 4\n= ?\n- MMMMDCCCCLXXXXVIII?\n# L\n- ??C\n":  of("= ?", "- MMMMDCCCCLXXXXVIII?", "# L", "- ??C"),
		"account 8\n" + strings.Repeat("- ?\n= M\n", 4):        slices.Repeat(of("- ?", "= M"), 4),
		"account 2\n- X\n- X\n":                                of("- X", "- X"),
		"account 7\n# I\n= V\n- X\n# L\n= C\n- D\n# MDCLXVI\n": of("# I", "= V", "- X", "# L", "= C", "- D", "# MDCLXVI"),
	} {
		s, e := Write(l)
		read, row, f := Read(text)
		if s != text || e != api.OK || f != api.OK || row != 0 || !slices.Equal(read, l) {
			t.Errorf("%q: %q %v, %v %d %v", text, s, e, read, row, f)
		}
	}
}

// wrong tests that the row of that number is the first one that is not as said.
func wrong(t *testing.T, text string, want int) {
	t.Helper()
	if l, row, e := Read(text); row != want || e != api.ErrShape || l != nil {
		t.Errorf("%q: %v %d %v, not %d", text, l, row, e, want)
	}
}

// TestHeadP3_5 has first rows that are not as said, whatever is behind them.
func TestHeadP3_5(t *testing.T) {
	for _, head := range []string{
		"", " ", "account", "account ", "account  1", " account 1", "account 1 ", "account 1 1", "account\t1", "account 1\r", "account x", "account -1", "account +1", "account 01", "account 10", "account 12", "account 00", "account 1x", "account ?", "account 1.", "account I",
		"Account 1", "accounts 1", "acount 1", "account1", "- X", "= X", "1", "account \xff", "account ١", "\x00account 1", "account 18446744073709551617",
	} {
		wrong(t, head+"\n- X\n", 1)
		wrong(t, head+"\n", 1)
		wrong(t, head, 1)
	}
	wrong(t, "account 1", 1)
	wrong(t, "account 0", 1)
	wrong(t, strings.Repeat("x", 400), 1)
}

// TestRowsP3_5 has rows that are not as said, ahead of and behind others.
func TestRowsP3_5(t *testing.T) {
	for _, bad := range []string{
		"", " ", "-", "- ", "-  ", "--", "-X", "X", " X", "- X ", " - X", "-  X", "- X V", "- X  V", "- X V ", "+ X", "* X", "x X", "~ X", "-= X", "=# X", "-- X", "-=# X", "X X", "- X?\t ", "\t- X", "-\tX", "–\u00a0X", "– X", "\xff X", "account 1", "finis",
	} {
		for many, ahead := range []string{"", "- X\n", "= X\n# ?\n", strings.Repeat("- I\n", 8)} {
			first := "account " + string("1239"[many]) + "\n" + ahead
			want := strings.Count(first, "\n") + 1
			wrong(t, first+bad+"\n", want)
			wrong(t, first+bad+"\n- X\n", want)
			wrong(t, first+bad, want)
		}
	}
}

func TestEndsP3_5(t *testing.T) {
	for text, row := range map[string]int{
		"account 1\n":         2,
		"account 1\n- X":      2,
		"account 2\n- X":      2,
		"account 2\n- X\n":    3,
		"account 2\n- X\n- V": 3,
		"account 9\n- X\n":    3,
		"account 8\n" + strings.Repeat("- X\n", 7): 9,
		"account 0\n\n":                    2,
		"account 0\n- X\n":                 2,
		"account 0\nx":                     2,
		"account 1\n- X\n- V\n":            3,
		"account 1\n- X\n\n":               3,
		"account 1\n- X\n ":                3,
		"account 1\n- X\n- V":              3,
		"account 1\n- X\nx":                3,
		"account 1\n- X\naccount 1\n- X\n": 3,
		"account 9\n" + strings.Repeat("- X\n", 9) + "- X\n": 11,
		"account 1\n- x\n- V\n":                              3,
		"account 1\n- IV\n\n":                                3,
		"account 2\n- IV\n+ X\n":                             3,
		"account 2\n- IV\n":                                  3,
	} {
		wrong(t, text, row)
	}
}

// TestReadChecksP3_5 has texts whose rows are as said, of accounts that are not valid, and of some that are.
func TestReadChecksP3_5(t *testing.T) {
	for text, want := range map[string]api.Errno{
		"account 0\n": api.ErrFew,
		"account 9\n" + strings.Repeat("- X\n", 9):        api.ErrMany,
		"account 9\n" + strings.Repeat("- x\n", 9):        api.ErrMany,
		"account 1\n- x\n":                                api.ErrShape,
		"account 1\n- -\n":                                api.ErrShape,
		"account 1\n- X\r\n":                              api.ErrShape,
		"account 1\n- X\tV\n":                             api.ErrShape,
		"account 1\n- \xff\n":                             api.ErrShape,
		"account 1\n- X\u00a0V\n":                         api.ErrShape,
		"account 1\n- " + strings.Repeat("?", 19) + "\n":  api.ErrMany,
		"account 1\n- " + strings.Repeat("?", 20) + "\n":  api.ErrShape,
		"account 1\n- " + strings.Repeat("I", 387) + "\n": api.ErrShape,
		"account 1\n- " + strings.Repeat("I", 388) + "\n": api.ErrLong,
		"account 1\n- IV\n":                               api.ErrNone,
		"account 2\n- IV\n= x\n":                          api.ErrNone,
		"account 2\n- ???\n= ???\n":                       api.ErrMany,
		"account 2\n- ???\n= ??\n":                        api.OK,
		"account 2\n- X\n= V\n":                           api.OK,
		"account 1\n= X\n":                                api.OK,
		strings.Repeat("x", 401):                          api.ErrLong,
		strings.Repeat("\n", 401):                         api.ErrLong,
		strings.Repeat("account 1\n- X\n", 100000):        api.ErrLong,
	} {
		if l, row, e := Read(text); row != 0 || e != want || (l == nil) != (e != api.OK) {
			t.Errorf("%q: %v %d %v", text, l, row, e)
		}
	}
}
