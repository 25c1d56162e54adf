package join

import (
	"reflect"
	"slices"
	"strings"
	"testing"

	"cippus/api"
)

// The first rows of the least note, and all of it.
const (
	head  = "heap 1 0 1\n"
	piece = "piece 1:1 0:0\n"
	strip = "strip 0:0 0:0\n"
	least = head + piece + strip + "end\n"
)

// greatest is a heap of which all numbers and lists are as great as they may be.
func greatest() api.Heap {
	letters := "ABCDEFGHIJKLMNOPQRSTUVWXYZ"
	p := api.Piece{Thick: span(1000, 1000), Base: span(12, 12), Left: slices.Repeat(spans(200, 200), 6), Right: slices.Repeat(spans(200, 200), 6), Begins: slices.Repeat([]string{letters}, 4), Ends: slices.Repeat([]string{letters}, 4)}
	return api.Heap{Pitch: 5, Loss: 50, Least: 6, Pieces: slices.Repeat([]api.Piece{p}, 5)}
}

func TestWriteP4_6(t *testing.T) {
	for text, h := range map[string]api.Heap{
		"heap 2 3 2\npiece 40:45 0:0\nstrip 0:0 50:52\nstrip 0:0 55:56\nstrip 0:0 51:53\nline B AM\nline C -\npiece 44:50 0:1\nstrip 10:11 90:90\nstrip 15:16 90:90\nstrip 11:12 90:90\nline MN -\nline - -\nend\n": example(),
		"heap 1 3 2\npiece 40:45 0:0\nstrip 0:0 5:6\nline - AM\nend\n": {Pitch: 1, Loss: 3, Least: 2, Pieces: []api.Piece{{Thick: span(40, 45), Left: spans(0, 0), Right: spans(5, 6), Begins: []string{""}, Ends: []string{"AM"}}}},
		least:                                    {Pitch: 1, Least: 1, Pieces: []api.Piece{{Thick: span(1, 1), Left: spans(0, 0), Right: spans(0, 0)}}},
		head + piece + strip + least[len(head):]: {Pitch: 1, Least: 1, Pieces: slices.Repeat([]api.Piece{{Thick: span(1, 1), Left: spans(0, 0), Right: spans(0, 0)}}, 2)},
		"heap 5 50 6\n" + strings.Repeat("piece 1000:1000 12:12\n"+strings.Repeat("strip 200:200 200:200\n", 6)+strings.Repeat("line ABCDEFGHIJKLMNOPQRSTUVWXYZ ABCDEFGHIJKLMNOPQRSTUVWXYZ\n", 4), 5) + "end\n": greatest(),
	} {
		s, e := Write(h)
		read, line, f := Read(text)
		if s != text || e != api.OK || f != api.OK || line != 0 || !same(read, h) {
			t.Errorf("%q: %q %v, %v %d %v", text, s, e, read, line, f)
		}
	}
}

// same reports whether two heaps are equal; a nil slice is equal to an empty one.
func same(a, b api.Heap) bool {
	if len(a.Pieces) != len(b.Pieces) || a.Pitch != b.Pitch || a.Loss != b.Loss || a.Least != b.Least {
		return false
	}
	for i, p := range a.Pieces {
		q := b.Pieces[i]
		if p.Thick != q.Thick || p.Base != q.Base || !slices.Equal(p.Left, q.Left) || !slices.Equal(p.Right, q.Right) || !slices.Equal(p.Begins, q.Begins) || !slices.Equal(p.Ends, q.Ends) {
			return false
		}
	}
	return true
}

// wrong tests that the row of that number is the first one that is not as said.
func wrong(t *testing.T, text string, want int) {
	t.Helper()
	if h, line, e := Read(text); line != want || e != api.ErrShape || !reflect.DeepEqual(h, api.Heap{}) {
		t.Errorf("%q: %v %d %v, not %d", text, h, line, e, want)
	}
}

// wrongAfter tests a row that is not as said, behind rows that are: ahead of others, as the last one, and without a line feed.
func wrongAfter(t *testing.T, before, row string) {
	t.Helper()
	want := strings.Count(before, "\n") + 1
	wrong(t, before+row+"\n", want)
	wrong(t, before+row+"\n"+"end\n", want)
	wrong(t, before+row+"\nx\n", want)
	wrong(t, before+row, want)
}

// TestWordsP4_6 has rows that begin with no word that there is, or not as a word has to.
func TestWordsP4_6(t *testing.T) {
	for _, row := range []string{
		"", " ", "x", "heaps 1 0 1", "heap1 0 1", "Heap 1 0 1", " heap 1 0 1", "\theap 1 0 1", "heap\t1 0 1", "HEAP 1 0 1", "\xff", "\x00", "ende", "End", " end", "pieces 1:1 0:0", "Piece 1:1 0:0", " piece 1:1 0:0", "strips 0:0 0:0", "Strip 0:0 0:0", "lines A A", "Line A A", " line A A", "-", "1", "1:1 0:0", "A A", "finis",
	} {
		for _, before := range []string{"", head, head + piece, head + piece + strip, head + piece + strip + "line - -\n"} {
			wrongAfter(t, before, row)
		}
		wrong(t, least+row+"\n", 5)
	}
}

// TestOrderP4_6 has rows where they may not be.
func TestOrderP4_6(t *testing.T) {
	rows := []string{"heap 1 0 1", "piece 1:1 0:0", "strip 0:0 0:0", "line - A", "end"}
	for before, may := range map[string]string{
		"":                                  "heap",
		head:                                "piece end",
		head + piece:                        "piece strip line end",
		head + piece + strip:                "piece strip line end",
		head + piece + strip + strip:        "piece strip line end",
		head + piece + "line A A\n":         "piece line end",
		head + piece + strip + "line - -\n": "piece line end",
		head + piece + strip + "line A A\nline - -\n":                      "piece line end",
		head + piece + strip + "line A A\n" + piece:                        "piece strip line end",
		head + piece + strip + "line A A\n" + piece + strip:                "piece strip line end",
		head + piece + strip + "line A A\n" + piece + strip + "line A A\n": "piece line end",
		head + piece + piece: "piece strip line end",
		head + "end\n":       "",
		least:                "",
	} {
		for _, row := range rows {
			word, _, _ := strings.Cut(row, " ")
			if !strings.Contains(may, word) {
				wrongAfter(t, before, row)
				continue
			}
			next := strings.Count(before, "\n") + 2
			wrong(t, before+row+"\n?\n", next)
			wrong(t, before+row+"\n?", next)
			wrong(t, before+row, next-1)
			if word != "end" {
				wrong(t, before+row+"\n", next)
			}
		}
	}
	wrong(t, "", 1)
}

// TestPartsP4_6 has rows that begin with the right word, and go on wrongly.
func TestPartsP4_6(t *testing.T) {
	numbers := []string{"", "-", "+1", "-1", "-0", "00", "01", "007", "000000", "123456", "1234567890", "99999999999999999999", "1.0", "1,", "a", "A", "1a", "a1", "1:", "0x1", "1e1", "١", "\xff", "\t1", "1\t", "1\r", "?"}
	for _, n := range numbers {
		for _, row := range []string{"heap " + n + " 0 1", "heap 1 " + n + " 1", "heap 1 0 " + n} {
			wrongAfter(t, "", row)
		}
		for _, s := range []string{n + ":1", "0:" + n, n + ":" + n} {
			for _, row := range []string{"piece " + s + " 0:0", "piece 1:1 " + s, "strip " + s + " 0:0", "strip 0:0 " + s} {
				wrongAfter(t, head+piece, row)
			}
		}
	}
	for _, s := range []string{"", ":", "1", "11", "1:1:1", "1::1", ":1", "1:", "1-1", "1 1", "1;1", "1:1:", ":1:1", "1:1 ", "1: 1", "-"} {
		for _, row := range []string{"piece " + s + " 0:0", "piece 1:1 " + s, "strip " + s + " 0:0", "strip 0:0 " + s} {
			wrongAfter(t, head+piece+strip, row)
		}
	}
	for _, s := range []string{"", "a", "Aa", "aA", "--", "-A", "A-", "A,B", "[", "@", "1", "A1", "\xff", "A\xff", "Д", "A ", " A", "?", "."} {
		for _, row := range []string{"line " + s + " A", "line A " + s, "line " + s + " -", "line - " + s, "line " + s + " " + s} {
			wrongAfter(t, head+piece+strip, row)
		}
	}
	for _, row := range []string{"heap", "heap ", "heap 1", "heap 1 0", "heap 1 0 ", "heap 1 0 1 ", "heap 1 0 1 1", "heap  1 0 1", "heap 1  0 1", "heap 1 0  1"} {
		wrongAfter(t, "", row)
	}
	for _, row := range []string{"piece", "piece ", "piece 1:1", "piece 1:1 ", "piece 1:1 0:0 ", "piece 1:1 0:0 0:0", "piece  1:1 0:0", "piece 1:1  0:0", "strip", "strip 0:0", "strip 0:0 ", "strip 0:0 0:0 ", "strip 0:0 0:0 0:0", "strip  0:0 0:0", "line", "line A", "line A ", "line A A ", "line A A A", "line  A A", "line - - -", "end ", "end end", "end 1", "end\t", "end\r"} {
		wrongAfter(t, head+piece+strip, row)
	}
}

func TestEndsP4_6(t *testing.T) {
	for text, line := range map[string]int{
		"":                                  1,
		"\n":                                1,
		"end":                               1,
		"end\n":                             1,
		"heap 1 0 1":                        1,
		head:                                2,
		head + "piece 1:1 0:0":              2,
		head + piece:                        3,
		head + piece + strip:                4,
		head + piece + strip + "line - -\n": 5,
		head + piece + strip + "end":        4,
		least + "\n":                        5,
		least + " ":                         5,
		least + "x":                         5,
		least + "end\n":                     5,
		least + head:                        5,
		least + least:                       5,
		least + piece:                       5,
		"\n" + least:                        1,
		"heap 9 0 1\nend\nend\n":            3,
		"heap 1 0 1\nend\n\n":               3,
		strings.Repeat("x", 2500):           1,
		head + strings.Repeat("x", 2500-len(head)):                                       2,
		head + strings.Repeat("x", 2500-len(head)-1) + "\n":                              2,
		head + piece + strings.Repeat(strip, 176):                                        179,
		least + strings.Repeat("x", 2500-len(least)):                                     5,
		head + piece + strip + "line " + strings.Repeat("A", 2500-len(least)-8) + " -\n": 5,
	} {
		wrong(t, text, line)
	}
}

// TestReadChecksP4_6 has notes whose rows are as said, of heaps that are not valid, and of some that are.
func TestReadChecksP4_6(t *testing.T) {
	body := piece + strip + "end\n"
	row := func(row string) string { return head + piece + strip + row + "\nend\n" }
	for text, want := range map[string]api.Errno{
		least:                                                            api.OK,
		row("line A Z"):                                                  api.OK,
		row("line ABZ -"):                                                api.OK,
		row("strip 0:200 200:200"):                                       api.OK,
		"heap 0 0 1\n" + body:                                            api.ErrBounds,
		"heap 1 0 0\n" + body:                                            api.ErrBounds,
		"heap 10 0 1\n" + body:                                           api.ErrBounds,
		"heap 99999 0 1\n" + body:                                        api.ErrBounds,
		"heap 1 12345 1\n" + body:                                        api.ErrBounds,
		"heap 1 0 10000\n" + body:                                        api.ErrBounds,
		"heap 0 0 1\nend\n":                                              api.ErrBounds,
		head + "end\n":                                                   api.ErrFew,
		head + piece + "end\n":                                           api.ErrFew,
		head + piece + "line - -\nend\n":                                 api.ErrFew,
		head + piece + "line A A\n" + body:                               api.ErrFew,
		head + "piece 0:1 0:0\n" + strip + "end\n":                       api.ErrBounds,
		head + "piece 2:1 0:0\n" + strip + "end\n":                       api.ErrSequence,
		head + "piece 99999:99999 0:0\n" + strip + "end\n":               api.ErrBounds,
		head + "piece 1:1 0:13\n" + strip + "end\n":                      api.ErrBounds,
		head + strings.Repeat(piece+strip, 5) + "end\n":                  api.OK,
		head + strings.Repeat(piece+strip, 6) + "end\n":                  api.ErrMany,
		head + piece + strings.Repeat(strip, 6) + "end\n":                api.OK,
		head + piece + strings.Repeat(strip, 7) + "end\n":                api.ErrMany,
		head + piece + strip + strings.Repeat("line - -\n", 4) + "end\n": api.OK,
		head + piece + strip + strings.Repeat("line - -\n", 5) + "end\n": api.ErrMany,
		row("strip 0:201 0:0"):                                           api.ErrBounds,
		row("strip 0:0 2:1"):                                             api.ErrSequence,
		row("line BA A"):                                                 api.ErrShape,
		row("line A AA"):                                                 api.ErrShape,
		head + piece + strip + "line " + strings.Repeat("A", 2500-len(least)-8) + " -\nend\n": api.ErrShape,
		head + piece + strip + "line " + strings.Repeat("A", 2500-len(least)-7) + " -\nend\n": api.ErrLong,
		head + piece + strings.Repeat(strip, 176) + "end\n":                                   api.ErrMany,
		strings.Repeat("x", 2501):         api.ErrLong,
		strings.Repeat("\n", 2501):        api.ErrLong,
		least + strings.Repeat("x", 2500): api.ErrLong,
		strings.Repeat(least, 100000):     api.ErrLong,
	} {
		if h, line, e := Read(text); line != 0 || e != want || e != api.OK && !reflect.DeepEqual(h, api.Heap{}) {
			t.Errorf("%q: %v %d %v, not %v", text, h, line, e, want)
		}
	}
}
