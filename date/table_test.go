package date

import (
	"reflect"
	"strings"
	"testing"

	"cippus/api"
)

const exampleTable = "stones 3\nera -312 -311\nof 0 0 100 100\nyears 1 -215 -207\nafter 1 0 1 10\nspan 2 -200 -150\nafter 2 1 0 30\nso 5\n"

func TestWriteP5_4(t *testing.T) {
	var greatest []api.Note
	for range 8 {
		greatest = append(greatest, afterNote(5, 4, -3000, -3000))
	}
	for text, d := range map[string]api.Dating{
		exampleTable:       example(),
		"stones 1\nso 0\n": plain(1),
		"stones 6\nera -3000 3000\nera 0 0\nera 5 7\nso 0\n":                                                            eras(6, []api.Span{to(-3000, 3000), to(0, 0), to(5, 7)}),
		"stones 2\nyears 1 -3000 0 3000\nyears 0 7\nyears 1 8 9\nso 3\n":                                                plain(2, yearsNote(1, -3000, 0, 3000), yearsNote(0, 7), yearsNote(1, 8, 9)),
		"stones 2\nafter 1 0 -3000 3000\nspan 0 -1 0\nafter 0 1 0 0\nspan 1 3 3\nso 4\n":                                plain(2, afterNote(1, 0, -3000, 3000), spanNote(0, -1, 0), afterNote(0, 1, 0, 0), spanNote(1, 3, 3)),
		"stones 1\nera 1 2\nera 3 4\nera 5 6\nof 0 2 1 3000\nof 0 0 7 7\nof 0 1 1 1\nso 3\n":                            eras(1, []api.Span{to(1, 2), to(3, 4), to(5, 6)}, eraNote(0, 2, 1, 3000), eraNote(0, 0, 7, 7), eraNote(0, 1, 1, 1)),
		"stones 6\n" + strings.Repeat("era -3000 -3000\n", 3) + strings.Repeat("after 5 4 -3000 -3000\n", 8) + "so 8\n": eras(6, []api.Span{to(-3000, -3000), to(-3000, -3000), to(-3000, -3000)}, greatest...),
		"stones 1\nyears 0 1\nyears 0 2\nso 2\n":                                                                        clashes()["two years"],
	} {
		s, e := Write(d)
		if s != text || e != api.OK {
			t.Errorf("%q: %q %v", text, s, e)
		}
		read, row, f := Read(text)
		if row != 0 || f != api.OK || !reflect.DeepEqual(read, d) {
			t.Errorf("%q: %v %d %v", text, read, row, f)
		}
	}
}

// refused tests that the row of that number is the first one that is not as said.
func refused(t *testing.T, text string, want int) {
	t.Helper()
	if d, row, e := Read(text); row != want || e != api.ErrShape || !reflect.DeepEqual(d, api.Dating{}) {
		t.Errorf("%q: %v %d %v, not %d", text, d, row, e, want)
	}
}

const (
	stonesRow = "stones 2\n"
	eraRow    = "era 1 2\n"
	spanRow   = "span 1 3 4\n"
)

// TestHeadP5_4 has first rows that are not as said, whatever is behind them.
func TestHeadP5_4(t *testing.T) {
	for _, head := range []string{
		"", " ", "stones", "stones ", "stones 2 3", "stones 2 ", "stones  2", " stones 2", "stones\t2", "stones 2\r", "stones 02", "stones 00", "stones -0", "stones +2", "stones --2", "stones 12345", "stones -12345", "stones x", "stones 2x", "stones 2.", "stones -", "stones ٢", "stones \xff",
		"Stones 2", "stone 2", "stoness 2", "stones2", "2", "era 1 2", "years 0 1", "span 0 1 2", "of 0 0 1 1", "after 1 0 1 1", "so 0", "so 1", "x",
	} {
		refused(t, head+"\n"+eraRow+spanRow+"so 1\n", 1)
		refused(t, head+"\n"+stonesRow+"so 0\n", 1)
		refused(t, head+"\n", 1)
		refused(t, head, 1)
	}
	refused(t, "stones 2", 1)
	refused(t, strings.Repeat("x", 900), 1)
}

// TestRowsP5_4 has rows that are not as said, ahead of and behind others.
func TestRowsP5_4(t *testing.T) {
	for _, bad := range []string{
		"", " ", "x", "stones 2", "stones", "so", "so ", "so 2", "so 9", "so -0", "so 00", "so 01", "so x", "so 0 0", "so 1 1", "so 1 ", "so  1", "So 1", "s 1", "soo 1", "-1",
		"era", "era ", "era 1", "era 1 2 3", "era 1 2 ", "era  1 2", "era 1  2", "era 1 -0", "era 01 2", "era 1 02", "era 1 12345", "era -12345 2", "era 1 +2", "era 1:2", "era x 2", "Era 1 2", "eras 1 2", "era1 2",
		"years", "years ", "years 1", "years 1 ", "years 1  5", "years 1 5 ", " years 1 5", "years 1 5 -0", "years 1 05", "years 01 5", "years -0 5", "years 1 12345", "years 1 1 2 3 99999", "years 1 5,6", "years 1 x", "year 1 5", "Years 1 5",
		"span", "span 1", "span 1 3", "span 1 3 4 5", "span 1 3 4 ", "span  1 3 4", "span 1 3 04", "span 1 -0 4", "span 1 3 -", "span 1 3 12345", "span 1 3:4", "Span 1 3 4", "spans 1 3 4", "span\t1 3 4", "span 1 3 4\r",
		"of", "of 1", "of 1 0", "of 1 0 3", "of 1 0 3 4 5", "of 1 0 3 4 ", "of 1 0 03 4", "of 1 0 3 12345", "of 1 -0 3 4", "off 1 0 3 4", "Of 1 0 3 4",
		"after", "after 1", "after 1 0", "after 1 0 3", "after 1 0 3 4 5", "after  1 0 3 4", "after 1 0 3 4 ", "after 1 0 -03 4", "after 1 0 3 -12345", "after 1 0 --3 4", "After 1 0 3 4", "aft 1 0 3 4", "\xff 1 0 3 4", "after 1 0 3 4\x00",
	} {
		for _, first := range []string{stonesRow, stonesRow + eraRow, stonesRow + spanRow, stonesRow + eraRow + spanRow + "years 0 1 2\nafter 1 0 3 4\nof 1 0 3 4\n"} {
			want := strings.Count(first, "\n") + 1
			refused(t, first+bad+"\n", want)
			refused(t, first+bad+"\n"+spanRow+"so 2\n", want)
			refused(t, first+bad, want)
		}
	}
}

// TestPlacesP5_4 has rows that are as said, but not where they stand.
func TestPlacesP5_4(t *testing.T) {
	for text, row := range map[string]int{
		stonesRow + stonesRow + "so 0\n":                           2,
		stonesRow + eraRow + stonesRow:                             3,
		stonesRow + spanRow + stonesRow:                            3,
		stonesRow + spanRow + eraRow + "so 1\n":                    3,
		stonesRow + eraRow + "years 0 1\n" + eraRow:                4,
		stonesRow + "of 1 0 1 1\n" + eraRow + "so 1\n":             3,
		stonesRow + "after 1 0 1 1\n" + eraRow:                     3,
		stonesRow + strings.Repeat(spanRow, 3) + eraRow + "so 3\n": 5,
		stonesRow + "so 0\n" + "so 0\n":                            3,
		stonesRow + "so 0\n\n":                                     3,
		stonesRow + "so 0\n" + eraRow:                              3,
		stonesRow + "so 0\n" + spanRow + "so 1\n":                  3,
		stonesRow + "so 0\n" + stonesRow + "so 0\n":                3,
		stonesRow + "so 0\nx":                                      3,
		stonesRow + "so 0\n ":                                      3,
		stonesRow + "so 0\nso 0":                                   3,
		stonesRow + "so 0":                                         2,
		stonesRow + spanRow + "so 1":                               3,
		stonesRow + "so 1\n":                                       2,
		stonesRow + spanRow + "so 0\n":                             3,
		stonesRow + eraRow + "so 1\n":                              3,
		stonesRow + spanRow + "so 2\n":                             3,
		stonesRow + spanRow + "so 2\n" + spanRow:                   3,
		stonesRow + strings.Repeat(spanRow, 9) + "so 8\n":          11,
		stonesRow + strings.Repeat(spanRow, 60) + "so 60\nso 60\n": 63,
		"":                                       1,
		stonesRow:                                2,
		stonesRow + eraRow:                       3,
		stonesRow + spanRow:                      3,
		stonesRow + "span 1 3 4":                 2,
		stonesRow + "era 1 2":                    2,
		stonesRow + strings.Repeat(spanRow, 9):   11,
		"stones 0\nera 2 1\nspan 9 9 9\n":        4,
		"stones 0\nera 2 1\nspan 9 9 9\nso -1\n": 4,
		"stones 2\nyears 1 5 1\nyears 9 5 1\nso 2\n\n":                5,
		"stones 7\nera 1 2\nera 1 2\nera 1 2\nera 1 2\nso 0\nera 1\n": 7,
	} {
		refused(t, text, row)
	}
}

// TestReadChecksP5_4 has tables whose rows are as said, of datings that are not valid, or may not be, and of some that may be.
func TestReadChecksP5_4(t *testing.T) {
	for text, want := range map[string]api.Errno{
		"stones 0\nso 0\n":                                               api.ErrFew,
		"stones -1\nso 0\n":                                              api.ErrFew,
		"stones -9999\nso 0\n":                                           api.ErrFew,
		"stones 7\nso 0\n":                                               api.ErrMany,
		"stones 9999\nso 0\n":                                            api.ErrMany,
		stonesRow + "so 0\n":                                             api.OK,
		stonesRow + eraRow + "so 0\n":                                    api.OK,
		stonesRow + strings.Repeat(eraRow, 3) + "so 0\n":                 api.OK,
		stonesRow + strings.Repeat(eraRow, 4) + "so 0\n":                 api.ErrMany,
		stonesRow + "era 2 1\nso 0\n":                                    api.ErrSequence,
		stonesRow + "era -3001 1\nso 0\n":                                api.ErrBounds,
		stonesRow + "era 1 9999\nso 0\n":                                 api.ErrBounds,
		stonesRow + strings.Repeat(spanRow, 8) + "so 8\n":                api.OK,
		stonesRow + strings.Repeat(spanRow, 9) + "so 9\n":                api.ErrMany,
		stonesRow + strings.Repeat(spanRow, 60) + "so 60\n":              api.ErrMany,
		stonesRow + "years 1 5 5\nso 1\n":                                api.ErrSequence,
		stonesRow + "years 1 1 2 3\nso 1\n":                              api.OK,
		stonesRow + "years 1 1 2 3 4\nso 1\n":                            api.ErrMany,
		stonesRow + "years 1" + strings.Repeat(" 1", 400) + "\nso 1\n":   api.ErrMany,
		stonesRow + "years 2 1\nso 1\n":                                  api.ErrAbsent,
		stonesRow + "years -1 1\nso 1\n":                                 api.ErrAbsent,
		stonesRow + "years 1 -3001\nso 1\n":                              api.ErrBounds,
		stonesRow + "span 1 4 3\nso 1\n":                                 api.ErrSequence,
		stonesRow + "span 1 4 3001\nso 1\n":                              api.ErrBounds,
		stonesRow + "of 1 0 3 4\nso 1\n":                                 api.ErrAbsent,
		stonesRow + eraRow + "of 1 0 3 4\nso 1\n":                        api.OK,
		stonesRow + eraRow + "of 1 0 0 4\nso 1\n":                        api.ErrBounds,
		stonesRow + "after 1 1 3 4\nso 1\n":                              api.ErrShape,
		stonesRow + "after 1 2 3 4\nso 1\n":                              api.ErrAbsent,
		stonesRow + "after 1 0 3 4\nafter 0 1 3 4\nso 2\n":               api.OK,
		"stones 2\nyears 1 5 1\nyears 9 5 1\nso 2\n":                     api.ErrSequence,
		"stones 2\nyears 9 5 1\nyears 1 5 1\nso 2\n":                     api.ErrAbsent,
		strings.Repeat("x", 901):                                         api.ErrLong,
		strings.Repeat("\n", 901):                                        api.ErrLong,
		strings.Repeat(exampleTable, 10000):                              api.ErrLong,
		stonesRow + "years 1 " + strings.Repeat("7 ", 900) + "7\nso 1\n": api.ErrLong,
	} {
		d, row, e := Read(text)
		if row != 0 || e != want || (e != api.OK) != reflect.DeepEqual(d, api.Dating{}) {
			t.Errorf("%q: %v %d %v", text, d, row, e)
		}
	}
}

func TestLongTablesP5_4(t *testing.T) {
	years := stonesRow + "years 1" + strings.Repeat(" 1", 440)
	for _, c := range []struct {
		text      string
		long, row int
		want      api.Errno
	}{
		{years + "\nso 1\n", 902, 0, api.ErrLong},
		{years[2:] + "\nso 1\n", 900, 1, api.ErrShape},
		{years[:len(years)-2] + "\nso 1\n", 900, 0, api.ErrMany},
		{years[:len(years)-1] + "\nso 1\n", 901, 0, api.ErrLong},
		{strings.Repeat("x", 900), 900, 1, api.ErrShape},
		{exampleTable + strings.Repeat("\n", 900-len(exampleTable)), 900, 9, api.ErrShape},
		{exampleTable + strings.Repeat("\n", 901-len(exampleTable)), 901, 0, api.ErrLong},
	} {
		if d, row, e := Read(c.text); len(c.text) != c.long || row != c.row || e != c.want || !reflect.DeepEqual(d, api.Dating{}) {
			t.Error(len(c.text), c.long, d, row, e)
		}
	}
}
