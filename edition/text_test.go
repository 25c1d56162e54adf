package edition

import (
	"reflect"
	"slices"
	"strings"
	"testing"

	"cippus/api"
)

const exampleText = "books 2\nslab 5 1\n:ARMA\n:" + textT + "\nslab 0 2\n:CANO\nend\n"

func TestWriteP9_6(t *testing.T) {
	long := strings.Repeat("[---][A]", 12)
	greatest := api.Edition{Books: 3}
	for i := range 5 {
		greatest.Slabs = append(greatest.Slabs, slab([]int{999 - i, 999 - i, 999 - i}, long, long, long, long))
	}
	lines := strings.Repeat(":"+long+"\n", 4)
	for text, d := range map[string]api.Edition{
		exampleText: example(),
		"books 2\nslab 5 1\n:ARMA\nslab 0 2\n:CANO\nend\n": with(func(d *api.Edition) { d.Slabs[0].Lines = []string{"ARMA"} }),
		"books 1\nend\n":               {Books: 1},
		"books 3\nend\n":               {Books: 3},
		"books 1\nslab 1\n:A B\nend\n": {Books: 1, Slabs: []api.Slab{slab([]int{1}, "A B")}},
		"books 1\nslab 999\n:_\n:_\n:_\n:_\nslab 10\n:[.]\nend\n":      {Books: 1, Slabs: []api.Slab{slab([]int{999}, "_", "_", "_", "_"), slab([]int{10}, "[.]")}},
		"books 2\nslab 0 100\n:#A B#\nslab 100 0\n:A'[---] <B>\nend\n": {Books: 2, Slabs: []api.Slab{slab([]int{0, 100}, "#A B#"), slab([]int{100, 0}, "A'[---] <B>")}},
		"books 3\nslab 999 999 999\n" + lines + "slab 998 998 998\n" + lines + "slab 997 997 997\n" + lines + "slab 996 996 996\n" + lines + "slab 995 995 995\n" + lines + "end\n": greatest,
	} {
		s, e := Write(d)
		if s != text || e != api.OK {
			t.Errorf("%q: %q %v", text, s, e)
		}
		read, row, f := Read(text)
		if row != 0 || f != api.OK || !reflect.DeepEqual(read, d) {
			t.Errorf("%q: %v %d %v", text, read, row, f)
		}
	}
}

// refused tests that the row of that number is the first one that is not as said.
func refused(t *testing.T, text string, want int) {
	t.Helper()
	if d, row, e := Read(text); row != want || e != api.ErrShape || !reflect.DeepEqual(d, api.Edition{}) {
		t.Errorf("%q: %v %d %v, not %d", text, d, row, e, want)
	}
}

const (
	booksRow = "books 1\n"
	slabRow  = "slab 7\n"
	lineRow  = ":A B\n"
	endRow   = "end\n"
)

// TestBooksP9_6 has first rows that are not as said, whatever is behind them.
func TestBooksP9_6(t *testing.T) {
	for _, first := range []string{
		"", " ", "1", "books", "books ", "books 1 ", " books 1", "books  1", "books 1 1", "books 1 x", "books 1 1 1", "books\t1", "books,1", "books1", "books:1", "books 1\r", "books 1\x00",
		"books 01", "books 00", "books -1", "books -0", "books +1", "books 1.", "books x", "books 1x", "books 12345", "books 10000", "books 99999", "books 00001", "books 12345678901234567890", "books \u0661", "books \xff", "books A",
		"Books 1", "BOOKS 1", "book 1", "bookss 1", "book", "slab 1", "end 1", "end", "x 1", ":1", ":", ":A", ":books 1", "slab 7", "lines 1",
	} {
		refused(t, first+"\n"+slabRow+lineRow+endRow, 1)
		refused(t, first+"\n"+booksRow+slabRow+lineRow+endRow, 1)
		refused(t, first+"\n"+endRow, 1)
		refused(t, first+"\n", 1)
		refused(t, first, 1)
	}
	refused(t, "books 1", 1)
	refused(t, strings.Repeat("x", 3000), 1)
}

// TestRowsP9_6 has rows that are not as said, ahead of and behind others.
func TestRowsP9_6(t *testing.T) {
	for _, ahead := range []string{booksRow, booksRow + slabRow, booksRow + slabRow + lineRow, booksRow + slabRow + lineRow + lineRow, booksRow + slabRow + slabRow + lineRow, "books 0\nslab 0 0 0 0\n:\n"} {
		for _, bad := range []string{
			"", " ", "x", "7", "A", "ARMA", " :A", "A:", "x:A", ";A", "line A", "- A",
			"slab", "slab ", "slab 7 ", " slab 7", "slab  7", "slab 7  8", "slab\t7", "slab,7", "slab7", "slab:7", "slab 7\r", "slab 7 x", "slab x 7", "slab :A", "slab 7 :A", "slab 7:A", "slab 7,8",
			"slab 07", "slab 00", "slab 7 08", "slab -7", "slab -0", "slab 7 -1", "slab +7", "slab 7.", "slab 7x", "slab 12345", "slab 10000", "slab 7 12345", "slab 99999", "slab 00007", "slab 12345678901234567890", "slab \u0667", "slab \xff",
			"Slab 7", "SLAB 7", "slabs 7", "sla 7", "slap 7", "books 1", "books 7", "books", "Books 1",
			"end ", " end", "end 1", "end end", "End", "END", "ends", "en", "end\r", "end:", "end\t", "\x00", "\xff",
		} {
			want := strings.Count(ahead, "\n") + 1
			refused(t, ahead+bad+"\n", want)
			refused(t, ahead+bad+"\n"+slabRow+lineRow+endRow, want)
			refused(t, ahead+bad+"\n"+lineRow+endRow, want)
			refused(t, ahead+bad+"\n"+endRow, want)
			if bad != "" {
				refused(t, ahead+bad, want)
			}
		}
	}
}

// TestPlacesP9_6 has rows that are as said, but not where they stand, or are missing.
func TestPlacesP9_6(t *testing.T) {
	const whole = booksRow + slabRow + lineRow
	for text, row := range map[string]int{
		"":                                    1,
		"\n":                                  1,
		"\n\n":                                1,
		booksRow:                              2,
		booksRow + booksRow:                   2,
		booksRow + "\n":                       2,
		booksRow + "slab 7":                   2,
		booksRow + ":A":                       2,
		booksRow + "end":                      2,
		booksRow + lineRow:                    2,
		booksRow + lineRow + slabRow:          2,
		booksRow + ":\n":                      2,
		booksRow + slabRow:                    3,
		booksRow + slabRow + booksRow:         3,
		booksRow + slabRow + "end":            3,
		booksRow + slabRow + ":A":             3,
		booksRow + slabRow + slabRow:          4,
		booksRow + endRow + endRow:            3,
		booksRow + endRow + slabRow:           3,
		booksRow + endRow + booksRow:          3,
		booksRow + endRow + lineRow:           3,
		booksRow + endRow + "\n":              3,
		whole:                                 4,
		whole + booksRow + endRow:             4,
		whole + "end":                         4,
		whole + "slab 8":                      4,
		whole + ":A":                          4,
		whole + slabRow:                       5,
		whole + lineRow:                       5,
		whole + lineRow + "end":               5,
		whole + slabRow + booksRow:            5,
		whole + endRow + endRow:               5,
		whole + endRow + "\n":                 5,
		whole + endRow + " ":                  5,
		whole + endRow + "x":                  5,
		whole + endRow + "\x00":               5,
		whole + endRow + "end":                5,
		whole + endRow + lineRow:              5,
		whole + endRow + slabRow:              5,
		whole + endRow + booksRow:             5,
		whole + endRow + whole + endRow:       5,
		whole + strings.Repeat(lineRow, 50):   54,
		booksRow + strings.Repeat(slabRow, 9): 11,
		"books 9999\nslab 9999 9999\n:\n":     4,
		"books 0\nslab 0\n: \nend\n\n":        5,
		"books 0\nslab 0\n:\nslab 0 x\nend\n": 4,
	} {
		refused(t, text, row)
	}
}

// TestReadChecksP9_6 has editions whose rows are as said, and which are not valid, and some that are.
func TestReadChecksP9_6(t *testing.T) {
	for text, want := range map[string]api.Errno{
		booksRow + endRow:                                                api.OK,
		booksRow + slabRow + lineRow + endRow:                            api.OK,
		booksRow + slabRow + lineRow + lineRow + endRow:                  api.OK,
		"books 0\n" + endRow:                                             api.ErrFew,
		"books 4\n" + endRow:                                             api.ErrMany,
		"books 9999\n" + endRow:                                          api.ErrMany,
		"books 0\nslab 9999 9999\n:\n" + endRow:                          api.ErrFew,
		booksRow + slabRow + endRow:                                      api.ErrFew,
		booksRow + slabRow + slabRow + lineRow + endRow:                  api.ErrFew,
		booksRow + slabRow + strings.Repeat(lineRow, 4) + endRow:         api.OK,
		booksRow + slabRow + strings.Repeat(lineRow, 5) + endRow:         api.ErrMany,
		booksRow + slabRow + strings.Repeat(lineRow, 500) + endRow:       api.ErrMany,
		booksRow + strings.Repeat(slabRow, 6) + endRow:                   api.ErrMany,
		booksRow + strings.Repeat(slabRow+lineRow, 2) + endRow:           api.ErrTwice,
		booksRow + strings.Repeat(slabRow+lineRow, 6) + endRow:           api.ErrMany,
		booksRow + "slab 7 8\n" + lineRow + endRow:                       api.ErrShape,
		booksRow + "slab 7 7 7 7 7\n" + lineRow + endRow:                 api.ErrShape,
		"books 2\n" + slabRow + lineRow + endRow:                         api.ErrShape,
		booksRow + "slab 0\n" + lineRow + endRow:                         api.ErrNone,
		booksRow + "slab 0\n" + endRow:                                   api.ErrNone,
		booksRow + "slab 999\n" + lineRow + endRow:                       api.OK,
		booksRow + "slab 1000\n" + lineRow + endRow:                      api.ErrBounds,
		booksRow + "slab 9999\n" + endRow:                                api.ErrBounds,
		"books 2\nslab 0 9999\n" + lineRow + endRow:                      api.ErrBounds,
		"books 2\nslab 7 7\n" + lineRow + endRow:                         api.OK,
		"books 2\nslab 7 8\n:A\nslab 8 7\n:A\nend\n":                     api.OK,
		"books 2\nslab 7 8\n:A\nslab 9 8\n:A\nend\n":                     api.ErrTwice,
		booksRow + slabRow + ":\n" + endRow:                              api.ErrShape,
		booksRow + slabRow + "::\n" + endRow:                             api.ErrShape,
		booksRow + slabRow + "::A\n" + endRow:                            api.ErrShape,
		booksRow + slabRow + ": A\n" + endRow:                            api.ErrShape,
		booksRow + slabRow + ":A \n" + endRow:                            api.ErrShape,
		booksRow + slabRow + ":A  B\n" + endRow:                          api.ErrShape,
		booksRow + slabRow + ":A\r\n" + endRow:                           api.ErrShape,
		booksRow + slabRow + ":a\n" + endRow:                             api.ErrShape,
		booksRow + slabRow + ":end\n" + endRow:                           api.ErrShape,
		booksRow + slabRow + ":slab 7\n" + endRow:                        api.ErrShape,
		booksRow + slabRow + ":[A][B]\n" + endRow:                        api.ErrShape,
		booksRow + slabRow + ":\xff\x00\n" + endRow:                      api.ErrShape,
		booksRow + slabRow + ":Ä\n" + endRow:                             api.ErrShape,
		booksRow + slabRow + ":" + strings.Repeat("A", 24) + "\nend\n":   api.OK,
		booksRow + slabRow + ":" + strings.Repeat("A", 25) + "\nend\n":   api.ErrShape,
		booksRow + slabRow + ":" + strings.Repeat("A", 2000) + "\nend\n": api.ErrShape,
		strings.Repeat("x", 3001):                                        api.ErrLong,
		strings.Repeat("\n", 3001):                                       api.ErrLong,
		strings.Repeat(exampleText, 10000):                               api.ErrLong,
		exampleText + strings.Repeat("\xff", 3001-len(exampleText)):      api.ErrLong,
	} {
		d, row, e := Read(text)
		if row != 0 || e != want || (e != api.OK) != reflect.DeepEqual(d, api.Edition{}) {
			t.Errorf("%q: %v %d %v", text, d, row, e)
		}
	}
}

// TestAnyBytesP9_6 has each byte but the line feed behind a colon, and each byte as a row of its own.
func TestAnyBytesP9_6(t *testing.T) {
	for b := range 256 {
		one := string([]byte{byte(b)})
		if b != '\n' {
			want := api.ErrShape
			if b == '_' || 'A' <= b && b <= 'Z' {
				want = api.OK
			}
			if _, row, e := Read(booksRow + slabRow + ":" + one + "\n" + endRow); row != 0 || e != want {
				t.Errorf("%q: %d %v", one, row, e)
			}
		}
		if b != ':' {
			refused(t, booksRow+slabRow+one+"\n"+endRow, 3)
		}
		refused(t, booksRow+slabRow+lineRow+"end"+one+"\n", 4+len(slices.DeleteFunc([]byte(one), func(c byte) bool { return c != '\n' })))
	}
}

func TestLongP9_6(t *testing.T) {
	lined := func(long int) string {
		begin, end := booksRow+slabRow+":", "\n"+endRow
		return begin + strings.Repeat("A", long-len(begin)-len(end)) + end
	}
	for i, c := range []struct {
		text      string
		long, row int
		want      api.Errno
	}{
		{lined(2999), 2999, 0, api.ErrShape},
		{lined(3000), 3000, 0, api.ErrShape},
		{lined(3001), 3001, 0, api.ErrLong},
		{lined(2999) + "\n", 3000, 5, api.ErrShape},
		{lined(3000) + "\n", 3001, 0, api.ErrLong},
		{exampleText + strings.Repeat("\n", 3000-len(exampleText)), 3000, 8, api.ErrShape},
		{exampleText + strings.Repeat("\n", 3001-len(exampleText)), 3001, 0, api.ErrLong},
	} {
		if d, row, e := Read(c.text); len(c.text) != c.long || row != c.row || e != c.want || !reflect.DeepEqual(d, api.Edition{}) {
			t.Error(i, len(c.text), c.long, d, row, e)
		}
	}
}
