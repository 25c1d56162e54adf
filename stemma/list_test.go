package stemma

import (
	"slices"
	"strings"
	"testing"

	"cippus/api"
)

func TestWriteP7_4(t *testing.T) {
	for text, l := range map[string][]api.Copy{
		"places 4\nsaw ARMA 1\nsaw ARMO 0\nhad ERMO 1\ncopies 3\n":          traditionL(),
		"places 1\nsaw A 0\ncopies 1\n":                                     of(saw("A", 0)),
		"places 1\nhad Z 3\ncopies 1\n":                                     of(had("Z", 3)),
		"places 2\nsaw AB 0\nsaw CD 0\ncopies 2\n":                          of(saw("AB", 0), saw("CD", 0)),
		"places 3\nhad SAW 2\nsaw HAD 1\ncopies 2\n":                        of(had("SAW", 2), saw("HAD", 1)),
		"places 6\nsaw COPIES 1\nhad PLACES 1\ncopies 2\n":                  of(saw("COPIES", 1), had("PLACES", 1)),
		"places 8\n" + strings.Repeat("saw ABCDEFGH 3\n", 5) + "copies 5\n": slices.Repeat(of(saw("ABCDEFGH", 3)), 5),
	} {
		s, e := Write(l)
		if s != text || e != api.OK {
			t.Errorf("%q: %q %v", text, s, e)
		}
		read, row, f := Read(text)
		if row != 0 || f != api.OK || !slices.Equal(read, l) {
			t.Errorf("%q: %v %d %v", text, read, row, f)
		}
	}
}

// refused tests that the row of that number is the first one that is not as said.
func refused(t *testing.T, text string, want int) {
	t.Helper()
	if l, row, e := Read(text); row != want || e != api.ErrShape || l != nil {
		t.Errorf("%q: %v %d %v, not %d", text, l, row, e, want)
	}
}

const (
	placesRow = "places 2\n"
	sawRow    = "saw AB 1\n"
	hadRow    = "had BB 2\n"
	endRow    = "copies 1\n"
)

// TestHeadP7_4 has first rows that are not as said, whatever is behind them.
func TestHeadP7_4(t *testing.T) {
	for _, head := range []string{
		"", " ", "2", "places", "places ", "places  2", "places 2 ", "places 2 2", "places 2 x", "places x 2", " places 2", "places\t2", "places 2\r", "places 02", "places 12", "places 00", "places -2", "places -0", "places +2", "places x", "places 2x", "places 2.", "places -", "places :", "places /", "places \u0662", "places \xff", "places 2\x00",
		"Places 2", "place 2", "placess 2", "places2", "PLACES 2", "x 2", "saw AB 1", "had AB 1", "saw 2", "had 2", "copies 0", "copies 1", "copies 2",
	} {
		refused(t, head+"\n"+sawRow+endRow, 1)
		refused(t, head+"\n"+placesRow+sawRow+endRow, 1)
		refused(t, head+"\n", 1)
		refused(t, head, 1)
	}
	refused(t, "places 2", 1)
	refused(t, strings.Repeat("x", 200), 1)
}

// TestRowsP7_4 has rows that are not as said, ahead of and behind others.
func TestRowsP7_4(t *testing.T) {
	for _, bad := range []string{
		"", " ", "x", "1", "AB 1", " 1", "  1", "places 2", "places 0", "places 1", "places",
		"saw", "saw ", "saw AB", "saw AB ", "saw 1", "saw  1", "saw A 1", "saw ABC 1", "saw AB 1 ", "saw AB 1 1", "saw AB  1", "saw  AB 1", " saw AB 1", "saw A B 1", "saw A  1", "saw AB 12", "saw AB 01", "saw AB 00", "saw AB -1", "saw AB -0", "saw AB +1", "saw AB x", "saw AB 1x", "saw AB 1.", "saw AB :", "saw AB /", "saw AB \u0661", "saw AB 1\r", "saw\tAB 1", "saw AB\t1", "saw AB1", "sawAB 1", "saw \u00c4\u00c4 1", "saw \u00c4B 1",
		"Saw AB 1", "SAW AB 1", "saws AB 1", "sa AB 1", "seen AB 1", "got AB 1", "\x00 AB 1",
		"had", "had AB", "had 1", "had A 1", "had ABC 1", "had AB 1 1", "had  AB 1", "had AB 12", "had AB -1", "Had AB 1", "hads AB 1", "has AB 1",
		"copies", "copies ", "copies  1", "copies 9", "copies 01", "copies 001", "copies -1", "copies +1", "copies x", "copies 1 1", "copies 1 ", " copies 1", "copies 1\r", "copies AB 1", "Copies 1", "copy 1", "copie 1", "copiess 1", "copies1", "copies 10",
	} {
		for _, ahead := range []string{placesRow, placesRow + sawRow, placesRow + hadRow, placesRow + sawRow + hadRow + hadRow} {
			want := strings.Count(ahead, "\n") + 1
			refused(t, ahead+bad+"\n", want)
			refused(t, ahead+bad+"\n"+sawRow+endRow, want)
			refused(t, ahead+bad+"\n"+endRow, want)
			refused(t, ahead+bad+"\n"+placesRow+sawRow+endRow, want)
			if bad != "" {
				refused(t, ahead+bad, want)
			}
		}
	}
}

// TestPlacesP7_4 has rows that are as said, but not where they stand, or are missing.
func TestPlacesP7_4(t *testing.T) {
	for text, row := range map[string]int{
		"":                                                            1,
		"\n":                                                          1,
		placesRow:                                                     2,
		placesRow + placesRow:                                         2,
		placesRow + "\n":                                              2,
		placesRow + endRow:                                            2,
		placesRow + "copies 2\n":                                      2,
		placesRow + "copies 0":                                        2,
		placesRow + "copies 0\ncopies 0\n":                            3,
		placesRow + "copies 0\n\n":                                    3,
		placesRow + "copies 0\n" + sawRow:                             3,
		placesRow + sawRow:                                            3,
		placesRow + sawRow + placesRow:                                3,
		placesRow + sawRow + "copies 0\n":                             3,
		placesRow + sawRow + "copies 2\n":                             3,
		placesRow + sawRow + "copies 1":                               3,
		placesRow + sawRow + "saw AB 1":                               3,
		placesRow + sawRow + hadRow:                                   4,
		placesRow + sawRow + hadRow + endRow:                          4,
		placesRow + sawRow + hadRow + "copies 3\n":                    4,
		placesRow + sawRow + endRow + endRow:                          4,
		placesRow + sawRow + endRow + "copies 2\n":                    4,
		placesRow + sawRow + endRow + placesRow:                       4,
		placesRow + sawRow + endRow + sawRow:                          4,
		placesRow + sawRow + endRow + "\n":                            4,
		placesRow + sawRow + endRow + "x":                             4,
		placesRow + sawRow + endRow + " ":                             4,
		placesRow + sawRow + endRow + "\x00":                          4,
		placesRow + "saw ABC 1\nplaces 3\ncopies 1\n":                 2,
		"places 3\nsaw ABC 1\n" + sawRow + "copies 2\n":               3,
		"places 0\nsaw A 1\ncopies 1\n":                               2,
		"places 9\nsaw ABCDEFGH 1\ncopies 1\n":                        2,
		"places 0\n" + strings.Repeat("saw  0\n", 10) + "copies 10\n": 12,
		"places 0\n" + strings.Repeat("saw  0\n", 10) + "copies 0\n":  12,
		"places 0\n" + strings.Repeat("saw  0\n", 10) + "copies 9\n":  12,
	} {
		refused(t, text, row)
	}
}

// TestReadChecksP7_4 has rows that are as said, and copies that are not.
func TestReadChecksP7_4(t *testing.T) {
	for text, want := range map[string]api.Errno{
		placesRow + "copies 0\n":                             api.ErrFew,
		"places 0\ncopies 0\n":                               api.ErrFew,
		"places 9\ncopies 0\n":                               api.ErrFew,
		placesRow + sawRow + endRow:                          api.OK,
		placesRow + strings.Repeat(sawRow, 5) + "copies 5\n": api.OK,
		placesRow + strings.Repeat(sawRow, 6) + "copies 6\n": api.ErrMany,
		placesRow + strings.Repeat(hadRow, 9) + "copies 9\n": api.ErrMany,
		"places 0\nsaw  1\ncopies 1\n":                       api.ErrShape,
		"places 0\nhad  0\nsaw  9\ncopies 2\n":               api.ErrShape,
		"places 9\nsaw ABCDEFGHI 1\ncopies 1\n":              api.ErrShape,
		placesRow + "saw ab 1\ncopies 1\n":                   api.ErrShape,
		placesRow + "saw 12 1\ncopies 1\n":                   api.ErrShape,
		placesRow + "saw \u00c4 1\ncopies 1\n":               api.ErrShape,
		placesRow + "saw \xff\x00 1\ncopies 1\n":             api.ErrShape,
		placesRow + "saw \t\r 1\ncopies 1\n":                 api.ErrShape,
		placesRow + "had [] 1\ncopies 1\n":                   api.ErrShape,
		placesRow + "saw AB 4\ncopies 1\n":                   api.ErrBounds,
		placesRow + "had AB 9\ncopies 1\n":                   api.ErrBounds,
		placesRow + "had ab 9\ncopies 1\n":                   api.ErrShape,
		placesRow + "had AB 9\nsaw ab 1\ncopies 2\n":         api.ErrBounds,
		placesRow + "saw AB 3\nhad BC 0\ncopies 2\n":         api.OK,
		placesRow + "had AB 3\ncopies 1\n":                   api.OK,
		"places 8\nsaw ABCDEFGH 1\ncopies 1\n":               api.OK,
	} {
		l, row, e := Read(text)
		if e != want || row != 0 || e != api.OK && l != nil || e == api.OK && len(l) == 0 {
			t.Errorf("%q: %v %d %v", text, l, row, e)
		}
	}
}

func TestLongP7_4(t *testing.T) {
	for text, want := range map[string]api.Errno{
		strings.Repeat("x", 200):  api.ErrShape,
		strings.Repeat("x", 201):  api.ErrLong,
		strings.Repeat("x", 9999): api.ErrLong,
		strings.Repeat("\n", 201): api.ErrLong,
		placesRow + strings.Repeat(sawRow, 9) + "copies 9\n" + strings.Repeat("x", 101): api.ErrShape,
		placesRow + strings.Repeat(sawRow, 9) + "copies 9\n" + strings.Repeat("x", 102): api.ErrLong,
	} {
		l, row, e := Read(text)
		if e != want || l != nil || (row == 0) != (e == api.ErrLong) {
			t.Errorf("%d bytes: %v %d %v", len(text), l, row, e)
		}
	}
}
