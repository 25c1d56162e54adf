package sight

import (
	"reflect"
	"strings"
	"testing"

	"cippus/api"
)

const exampleSheet = "hand -400 -300 A7 L3 T12\nhand -320 -200 A15 L3 T12\nmarks 1 0 1\nsquare 15/7\nsquare 15/3\nsquare 3/0\nfinis\n"

func TestWriteP1_4(t *testing.T) {
	longest := strings.Repeat("hand 3000 3000 S1023 T1023 U1023 V1023 W1023 X1023 Y1023 Z1023\n", 4) + "marks 10 10 40\n" + strings.Repeat("square 1023/1023 1023/1023 1023/1023 1023/1023\n", 8) + "finis\n"
	for i, c := range []struct {
		l    api.Line
		want string
	}{
		{example(), exampleSheet},
		{smallest(), "hand -3000 -3000 A1\nmarks 0 0 0\nsquare\nfinis\n"},
		{lit(0, [2]int{15, 0}, [2]int{0, 0}, [2]int{1023, 512}), strings.Replace(exampleSheet, "15/7", "15/0 0/0 1023/512", 1)},
		{with(func(l *api.Line) { l.Hands[0].Years.High = 0 }), strings.Replace(exampleSheet, "-300", "0", 1)},
		{lit(2, [2]int{15, 0}), strings.Replace(exampleSheet, "3/0", "15/0", 1)},
		{greatest(), longest},
	} {
		if text, e := Write(c.l); text != c.want || e != api.OK {
			t.Error(i, text, e)
		}
		l, row, e := Read(c.want)
		if row != 0 || e != api.OK || !sameLine(l, c.l) {
			t.Error(i, l, row, e)
		}
	}
}

const (
	handRow   = "hand 1 2 A3\n"
	marksRow  = "marks 0 0 0\n"
	squareRow = "square 3/1\n"
	finisRow  = "finis\n"
)

// TestRowsP1_4 has a row that is not as said in a place where another one would be, and its number.
func TestRowsP1_4(t *testing.T) {
	for _, bad := range []string{
		"hand\n", "hand 1\n", "hand 1 2\n", "hand 1 A3\n", "hand A3\n", "hand 1 2 3\n", "hand 1 2 3 A3\n",
		"hand 1 2 a3\n", "hand 1 2 @3\n", "hand 1 2 [3\n", "hand 1 2 3A\n", "hand 1 2 A\n", "hand 1 2 A 3\n", "hand 1 2 AB3\n", "hand 1 2 A-3\n", "hand 1 2 A+3\n", "hand 1 2 A03\n", "hand 1 2 A00\n", "hand 1 2 A12345\n", "hand 1 2 A3,L4\n", "hand 1 2 \xc3\x843\n",
		"hand -0 2 A3\n", "hand +1 2 A3\n", "hand --1 2 A3\n", "hand - 2 A3\n", "hand 01 2 A3\n", "hand -01 2 A3\n", "hand 1 02 A3\n", "hand 1 -0 A3\n", "hand 1 -00 A3\n", "hand 12345 2 A3\n", "hand 1 12345 A3\n", "hand -12345 2 A3\n", "hand 1. 2 A3\n", "hand 0x1 2 A3\n", "hand 1/2 A3\n",
		"hand  1 2 A3\n", "hand 1  2 A3\n", "hand 1 2  A3\n", "hand 1 2 A3 \n", " hand 1 2 A3\n", "hand\t1 2 A3\n", "hand 1 2 A3\r\n", "Hand 1 2 A3\n", "hands 1 2 A3\n", "han 1 2 A3\n", "hand1 2 A3\n", "\n", " \n", "x\n",
		squareRow, "square\n", finisRow,
	} {
		ends(t, bad+marksRow+squareRow+finisRow, 1)
		ends(t, handRow+bad+marksRow+squareRow+finisRow, 2)
	}
	for _, bad := range []string{
		"marks\n", "marks 0\n", "marks 0 0\n", "marks 0 0 0 0\n", "marks -1 0 0\n", "marks 0 -1 0\n", "marks 0 0 -1\n", "marks 0 0 -0\n", "marks 00 0 0\n", "marks 0 01 0\n", "marks 0 0 12345\n", "marks 0 0 a\n", "marks 0  0 0\n", "marks 0 0 0 \n", "marks  0 0 0\n", "Marks 0 0 0\n", "mark 0 0 0\n", "marks 0/0 0\n", "\n",
	} {
		ends(t, handRow+bad+squareRow+finisRow, 2)
		ends(t, bad, 1)
	}
	for _, bad := range []string{
		handRow, marksRow, "square \n", "square  3/1\n", "square 3/1 \n", "square 3\n", "square 3 1\n", "square /\n", "square 3/\n", "square /1\n", "square 3/1/1\n", "square 3//1\n", "square 3/-1\n", "square -3/1\n", "square 3/-0\n", "square 03/1\n", "square 3/01\n", "square 12345/1\n", "square 3/12345\n", "square 3/1,3/1\n", "square a/1\n", "square 3/b\n", "square 3\\1\n", "squares 3/1\n", "Square 3/1\n", "\n", "finis \n", "finis 1\n", "Finis\n", "fini\n", " finis\n", "finis\r\n",
	} {
		ends(t, handRow+marksRow+bad+finisRow, 3)
		ends(t, handRow+marksRow+squareRow+bad+finisRow, 4)
	}
	for _, after := range []string{handRow, marksRow, squareRow, finisRow, "\n", "x", " ", "finis", "hand 1 2 a\n"} {
		ends(t, handRow+marksRow+squareRow+finisRow+after, 5)
	}
}

// ends tests that the row of that number is the first one that is not as said.
func ends(t *testing.T, text string, want int) {
	t.Helper()
	if l, row, e := Read(text); row != want || e != api.ErrShape || !reflect.DeepEqual(l, api.Line{}) {
		t.Errorf("%q: %v %d %v, not %d", text, l, row, e, want)
	}
}

func TestMissingRowsP1_4(t *testing.T) {
	for text, row := range map[string]int{
		"":                                 1,
		handRow:                            2,
		handRow + handRow:                  3,
		marksRow:                           2,
		handRow + marksRow:                 3,
		handRow + marksRow + squareRow:     4,
		"finis":                            1,
		"hand 1 2 A3":                      1,
		handRow + "marks 0 0 0":            2,
		handRow + marksRow + "square":      3,
		handRow + marksRow + "square 3/1":  3,
		handRow + marksRow + "finis":       3,
		handRow + "hand\n" + marksRow:      2,
		"hand\n" + marksRow + "square":     1,
		exampleSheet[:len(exampleSheet)-1]: 7,
	} {
		ends(t, text, row)
	}
}

// TestReadChecksP1_4 has sheets whose rows are as said, of lines that are not valid, or have no truth.
func TestReadChecksP1_4(t *testing.T) {
	for text, want := range map[string]api.Errno{
		marksRow + squareRow + finisRow:                                           api.ErrFew,
		handRow + marksRow + finisRow:                                             api.ErrFew,
		marksRow + finisRow:                                                       api.ErrFew,
		strings.Repeat(handRow, 5) + marksRow + squareRow + finisRow:              api.ErrMany,
		handRow + marksRow + strings.Repeat(squareRow, 9) + finisRow:              api.ErrMany,
		"hand 1 2 A1 B1 C1 D1 E1 F1 G1 H1 I1\n" + marksRow + squareRow + finisRow: api.ErrMany,
		"hand -9999 2 A3\n" + marksRow + squareRow + finisRow:                     api.ErrBounds,
		"hand 1 9999 A3\n" + marksRow + squareRow + finisRow:                      api.ErrBounds,
		"hand 2 1 A3\n" + marksRow + squareRow + finisRow:                         api.ErrSequence,
		"hand 1 2 A0\n" + marksRow + squareRow + finisRow:                         api.ErrBounds,
		"hand 1 2 A1024\n" + marksRow + squareRow + finisRow:                      api.ErrBounds,
		"hand 1 2 L3 A3\n" + marksRow + squareRow + finisRow:                      api.ErrSequence,
		handRow + "marks 11 0 0\n" + squareRow + finisRow:                         api.ErrBounds,
		handRow + "marks 0 11 0\n" + squareRow + finisRow:                         api.ErrBounds,
		handRow + "marks 0 0 41\n" + squareRow + finisRow:                         api.ErrBounds,
		handRow + marksRow + "square 3/4\n" + finisRow:                            api.ErrShape,
		handRow + marksRow + "square 9999/1\n" + finisRow:                         api.ErrBounds,
		handRow + marksRow + "square 3/1024\n" + finisRow:                         api.ErrBounds,
		handRow + marksRow + "square 0/0 0/0 0/0 0/0 0/0\n" + finisRow:            api.ErrMany,
		handRow + marksRow + squareRow + finisRow:                                 api.OK,
		"hand 0 0 Z1023\nmarks 10 10 40\nsquare 0/0\n" + finisRow:                 api.OK,
	} {
		l, row, e := Read(text)
		if row != 0 || e != want || e != api.OK && !reflect.DeepEqual(l, api.Line{}) {
			t.Errorf("%q: %v %d %v", text, l, row, e)
		}
	}
	if _, e := Hands(mustRead(t, handRow+marksRow+squareRow+finisRow)); e != api.ErrClash {
		t.Error(e)
	}
}

func mustRead(t *testing.T, text string) api.Line {
	l, _, e := Read(text)
	if e != api.OK {
		t.Fatal(e)
	}
	return l
}

func TestLongSheetsP1_4(t *testing.T) {
	shapes := strings.Repeat(" A1", 487) + "\n" + marksRow + "square 3/1\nfinis\n"
	for _, c := range []struct {
		text      string
		long, row int
		want      api.Errno
	}{
		{"hand 1 10" + shapes, 1500, 0, api.ErrMany},
		{"hand 1 100" + shapes, 1501, 0, api.ErrLong},
		{strings.Repeat("x", 1500), 1500, 1, api.ErrShape},
		{strings.Repeat("x", 1501), 1501, 0, api.ErrLong},
		{exampleSheet + strings.Repeat("\n", 1500-len(exampleSheet)), 1500, 8, api.ErrShape},
		{exampleSheet + strings.Repeat("\n", 1501-len(exampleSheet)), 1501, 0, api.ErrLong},
	} {
		if l, row, e := Read(c.text); len(c.text) != c.long || row != c.row || e != c.want || !reflect.DeepEqual(l, api.Line{}) {
			t.Error(len(c.text), c.long, l, row, e)
		}
	}
}
