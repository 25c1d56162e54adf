package editor

import (
	"math"
	"reflect"
	"slices"
	"strconv"
	"strings"
	"testing"

	"cippus/api"
	"cippus/career"
	"cippus/date"
	"cippus/edition"
	"cippus/forge"
	"cippus/gap"
)

// errorsOf returns what Run, Keep and Report say is wrong, and whether any other result is not a zero value.
func errorsOf(d api.Desk, book string) (list []api.Errno, left bool) {
	replies, e1 := Run(d, book)
	desk, e2 := Keep(d, book)
	report, e3 := Report(d, book)
	left = replies != "" || report != "" || !reflect.DeepEqual(desk, api.Desk{})
	return []api.Errno{e1, e2, e3}, left
}

// refused tests that all functions that take a book return an error, and nothing else.
func refused(t *testing.T, name string, d api.Desk, book string, want api.Errno) {
	t.Helper()
	if errors, left := errorsOf(d, book); slices.Min(errors) != want || slices.Max(errors) != want || left {
		t.Errorf("%s: %v %v, not %v", name, errors, left, want)
	}
}

// wrongDesk tests that a desk has an error, by all functions.
func wrongDesk(t *testing.T, name string, d api.Desk, want api.Errno) {
	t.Helper()
	if e := Check(d); e != want {
		t.Errorf("%s: %v, not %v", name, e, want)
	}
	for _, book := range []string{"", "years 0\n", "years 0", strings.Repeat("\n", 25), strings.Repeat("x", 1501)} {
		refused(t, name, d, book, want)
	}
}

// replies runs lines on a desk, and tests all replies: each line is followed by its reply.
func replies(t *testing.T, d api.Desk, lines ...string) {
	t.Helper()
	for len(lines) > 0 {
		part := lines[:min(2*api.MaxTasks, len(lines))] // as many as a book may have
		lines = lines[len(part):]
		var book, want []string
		for i := 0; i < len(part); i += 2 {
			book, want = append(book, part[i]), append(want, part[i+1])
		}
		got, e := Run(d, bookOf(book...))
		if e != api.OK {
			t.Fatal(book, e)
		}
		for i, reply := range linesOf(got) {
			if i >= len(want) || reply != want[i] {
				t.Errorf("%q: %q in %q, not %q", book[i], reply, got, want)
				break
			}
		}
		if n := strings.Count(got, "\n"); n != len(want) {
			t.Error(book, "has", n, "replies")
		}
		d = kept(t, d, bookOf(book...))
	}
}

// kept returns the desk after a book; it has to be one that may be.
func kept(t *testing.T, d api.Desk, book string) api.Desk {
	t.Helper()
	next, e := Keep(d, book)
	if e != api.OK || Check(next) != api.OK {
		t.Fatalf("%q: %v %v", book, e, Check(next))
	}
	return next
}

// layers has for each layer changes of the desk K that make it wrong there, each with the error.
var layers = [][]struct {
	want   api.Errno
	change func(d *api.Desk)
}{
	{
		{api.ErrTwice, func(d *api.Desk) { d.Edition.Slabs[1].Numbers = []int{5, 0} }},
		{api.ErrFew, func(d *api.Desk) { d.Edition.Books = 0 }},
		{api.ErrMany, func(d *api.Desk) { d.Edition.Books = 4 }},
		{api.ErrShape, func(d *api.Desk) { d.Edition.Slabs[1].Lines = []string{"["} }},
		{api.ErrBounds, func(d *api.Desk) { d.Edition.Slabs[0].Numbers = []int{1000, 0} }},
		{api.ErrNone, func(d *api.Desk) { d.Edition.Slabs[0].Numbers = []int{0, 0} }},
	},
	{
		{api.ErrSort, func(d *api.Desk) { d.Dating.Notes[0].Kind = 9 }},
		{api.ErrFew, func(d *api.Desk) { d.Dating.Stones = 0 }},
		{api.ErrMany, func(d *api.Desk) { d.Dating.Stones = 7 }},
		{api.ErrAbsent, func(d *api.Desk) { d.Dating.Notes[0].Stone = 2 }},
		{api.ErrClash, func(d *api.Desk) { d.Dating.Notes[1].Stone = 0 }},
		{api.ErrSequence, func(d *api.Desk) { d.Dating.Notes[1].Span = to(2, 1) }},
	},
	{
		{api.ErrBounds, func(d *api.Desk) { d.Roll.Life = 101 }},
		{api.ErrFew, func(d *api.Desk) { d.Roll.Men = nil }},
		{api.ErrClash, func(d *api.Desk) { d.Roll.Men[1].Died = to(300, 400) }},
		{api.ErrShape, func(d *api.Desk) { d.Roll.Far[0][1] = false }},
		{api.ErrTwice, func(d *api.Desk) { d.Roll.Records = []api.Record{{Kin: true, Man: 1, Child: 1}} }},
	},
	{
		{api.ErrAbsent, func(d *api.Desk) { d.Dossier.Cases[0].Shop = 1 }},
		{api.ErrBounds, func(d *api.Desk) { d.Dossier.Most = 5 }},
		{api.ErrClash, func(d *api.Desk) { d.Dossier.Cases[1].Cut = to(1701, 1800) }},
		{api.ErrFew, func(d *api.Desk) { d.Dossier.Cases = nil }},
		{api.ErrSequence, func(d *api.Desk) { d.Dossier.Cases[0].Shows = []int{0, 0} }},
	},
	{
		{api.ErrFew, func(d *api.Desk) { d.Lexicon.Words = nil }},
		{api.ErrMany, func(d *api.Desk) { d.Lexicon.First = make([]bool, 6) }},
		{api.ErrShape, func(d *api.Desk) { d.Lexicon.Last = nil }},
		{api.ErrAbsent, func(d *api.Desk) { d.Lexicon.Words[1].Form = 1 }},
		{api.ErrTwice, func(d *api.Desk) { d.Lexicon.Words[1] = d.Lexicon.Words[0] }},
		{api.ErrBounds, func(d *api.Desk) { d.Lexicon.Widths[25] = to(0, 1) }},
		{api.ErrSequence, func(d *api.Desk) { d.Lexicon.Widths[0] = to(2, 1) }},
	},
	{
		{api.ErrShape, func(d *api.Desk) {
			d.Edition.Slabs = append(d.Edition.Slabs, api.Slab{Numbers: []int{7, 0}, Lines: []string{"A"}})
		}},
		{api.ErrShape, func(d *api.Desk) { d.Edition.Slabs = d.Edition.Slabs[:1] }},
		{api.ErrShape, func(d *api.Desk) { d.Edition.Slabs = nil }},
		{api.ErrShape, func(d *api.Desk) { d.Dossier.Cases = d.Dossier.Cases[:1] }},
		{api.ErrShape, func(d *api.Desk) { d.Dossier.Cases = append(d.Dossier.Cases, d.Dossier.Cases[1]) }},
		{api.ErrShape, func(d *api.Desk) { d.Dating.Stones = 3 }},
		{api.ErrShape, func(d *api.Desk) { d.Dating.Stones, d.Dating.Notes = 1, d.Dating.Notes[:1] }},
		{api.ErrShape, func(d *api.Desk) {
			d.Dating.Stones, d.Dossier.Cases = 3, append(d.Dossier.Cases, d.Dossier.Cases[1])
		}},
	},
}

func TestCheckP10_1(t *testing.T) {
	if e := Check(example()); e != api.OK {
		t.Error(e)
	}
	for i, layer := range layers {
		for k, wrong := range layer {
			wrongDesk(t, strconv.Itoa(10*i+k), with(wrong.change), wrong.want)
		}
	}
	wrongDesk(t, "a desk of nothing", api.Desk{}, api.ErrFew)
	wrongDesk(t, "a desk without stones", with(func(d *api.Desk) {
		d.Edition.Slabs, d.Dating.Stones, d.Dating.Notes, d.Dossier.Cases = nil, 0, nil, nil
	}), api.ErrFew)
	wrongDesk(t, "a desk without stones and notes", with(func(d *api.Desk) { d.Edition.Slabs, d.Dating = nil, api.Dating{} }), api.ErrFew)
}

// TestFirstErrorP10_1 has errors of several layers.
func TestFirstErrorP10_1(t *testing.T) {
	for set := 1; set < 1<<len(layers); set++ {
		d, want := example(), api.OK
		for i := len(layers) - 1; i >= 0; i-- { // what changes how many there are comes first
			if set>>i&1 == 1 {
				layers[i][0].change(&d)
				want = layers[i][0].want
			}
		}
		wrongDesk(t, strconv.Itoa(set), d, want)
	}
	for i, layer := range layers {
		for k := range i {
			for _, wrong := range layers[k] {
				wrongDesk(t, "two", with(layer[0].change, wrong.change), wrong.want)
			}
		}
	}
}

func TestBooksP10_1(t *testing.T) {
	line := strings.Repeat("x", 59) + "\n"
	for name, c := range map[string]struct {
		book string
		want api.Errno
	}{
		"an empty book":                {"", api.OK},
		"an empty line":                {"\n", api.OK},
		"a line":                       {"years 0\n", api.OK},
		"no line feed":                 {"years 0", api.ErrShape},
		"no line feed after the last":  {"years 0\nyears 1", api.ErrShape},
		"a blank after the last":       {"years 0\n ", api.ErrShape},
		"another line feed":            {"years 0\r", api.ErrShape},
		"24 lines":                     {strings.Repeat("\n", 24), api.OK},
		"25 lines":                     {strings.Repeat("\n", 25), api.ErrMany},
		"25 lines, one of which ends":  {strings.Repeat("\n", 24) + "x", api.ErrShape},
		"25 lines without a last end":  {strings.Repeat("\n", 25) + "x", api.ErrShape},
		"1500 bytes":                   {strings.Repeat("x", 1499) + "\n", api.OK},
		"1500 bytes, 25 lines":         {strings.Repeat(line, 25), api.ErrMany},
		"1440 bytes, 24 lines":         {strings.Repeat(line, 24), api.OK},
		"1500 bytes, 24 lines":         {strings.Repeat(line, 24) + strings.Repeat("x", 60), api.ErrShape},
		"1501 bytes":                   {strings.Repeat("x", 1500) + "\n", api.ErrLong},
		"1501 bytes without line feed": {strings.Repeat("x", 1501), api.ErrLong},
		"1501 lines":                   {strings.Repeat("\n", 1501), api.ErrLong},
		"1500 lines":                   {strings.Repeat("\n", 1500), api.ErrMany},
		"bytes that are no runes":      {"\xff\xfe\n\x00\n", api.OK},
	} {
		if c.want != api.OK {
			refused(t, name, example(), c.book, c.want)
			continue
		}
		if errors, _ := errorsOf(example(), c.book); slices.Max(errors) != api.OK {
			t.Error(name, errors)
		}
		text, _ := Run(example(), c.book)
		if n := strings.Count(c.book, "\n"); strings.Count(text, "\n") != n || n > 0 && !strings.HasSuffix(text, "\n") {
			t.Errorf("%s: %q", name, text)
		}
	}
	if text, e := Run(example(), ""); text != "" || e != api.OK {
		t.Error(text, e)
	}
	if d, e := Keep(example(), ""); !equal(d, example()) || e != api.OK {
		t.Error(d, e)
	}
}

func TestExamplesP10_1(t *testing.T) {
	replies(t, example(),
		"years 0", "50 60", "trial 0", "open", "find 1 2", "1", "words 0 1", "ARMA ..QVE BCD-", "stone 0 1", "Ar....QABD_-",
		"fix 0 5 0 1 3 [..]", "ok", "words 0 0", "A..A", "fill 0 0", "1", "fill 0 9", "error 3",
		"held 0 0 0 0", "ok", "life 0", "0 35 50 100", "held 1 0 0 0", "error 9", "kin 0 1", "ok",
		"claim 0", "ok", "shows 0 0", "ok", "trial 0", "no", "why 0", "-2 0",
		"fix 0 5 0 0 1 X", "error 9", "held 0 0 0 0", "error 9", "span 0 61 70", "error 9",
		"renumber", "ok", "find 2 2", "1", "nothing", "error 2", "fix 0 5 0 0 1", "error 2")
	refused(t, "years 0 without a line feed", example(), "years 0", api.ErrShape)
	wrongDesk(t, "a dating of three stones", with(func(d *api.Desk) { d.Dating.Stones = 3 }), api.ErrShape)
}

// TestCountsP10_1 has the line of each word with each number of numbers.
func TestCountsP10_1(t *testing.T) {
	for word, many := range forms {
		line := word
		for n := range 9 {
			got, e := Run(example(), line+"\n")
			if right := n == many && word != "fix" || n > many && word == "fix"; e != api.OK || (got == "error 2\n") == right {
				t.Errorf("%q: %q %v", line, got, e)
			}
			line += " " + strconv.Itoa(n)
		}
	}
	replies(t, example(),
		"fix", "error 2", "fix ", "error 2", "fix A", "error 2", "fix 1 2 0 0 A", "error 2", "fix 1 2 0 0 A B", "error 2",
		"fix 1 2 0 0 0", "error 2", "fix 1 2 0 0 0 ", "error 7", "fix 1 2 0 0 1 ", "ok", "fix 1 2 0 0 1 5 A", "error 2",
		"words 1 0", "ANO", "fix 1 2 0 0  A", "error 2", "fix  1 2 0 0 0 A", "error 2", "fix 1 2 0 0 0 A B C", "ok", "words 1 0", "A B CANO",
		"fix 1 2 0 0 0 A ", "error 2", "fix 1 2 0 0 0  A", "error 2", "fix 1 2 0 0 0 A  B", "error 2", "fix 1 2 0 0 0  ", "error 2",
		" fix 1 2 0 0 0 A", "error 2", "FIX 1 2 0 0 0 A", "error 2", "fix1 2 0 0 0 A", "error 2", "fix 1 2 0 0 00 A", "error 2", "fix 1 2 0 0 -0 A", "error 2",
		"words 1 0", "A B CANO")
	for _, line := range []string{"", " ", "0", "life0", "life\t0", "life 0\r", "lif 0", "lifes 0", "LIFE 0", "nothing", "ok", "error 2", "life,0", "\xff", "life 0\x00", "stone", "man 0", "end", "end 0", "go 1"} {
		replies(t, example(), "life 0", "0 40 50 100", line, "error 2", "life 1", "60 90 100 150")
	}
}

// TestNumbersP10_1 has numbers in each place of the line of each word.
func TestNumbersP10_1(t *testing.T) {
	wrong := []string{"", " 0", "0 ", "00", "01", "-0", "-01", "+0", "+1", "-", "--1", "1-", "10000", "-10000", "12345", "00000", "x", "0x1", "1.0", "1e1", "1_0", "٣", "1\t", "\v1", "18446744073709551616", "99999999999999999999999"}
	right := []string{"0", "1", "-1", "9", "-9", "10", "9999", "-9999", "1000", "-1000"}
	for word, many := range forms {
		for place := range many {
			for i, number := range slices.Concat(wrong, right) {
				numbers := []string{"0", "1", "2", "3", "4"}[:many]
				if word == "fix" {
					numbers = []string{"1", "2", "0", "1", "1"}
				}
				numbers = slices.Clone(numbers)
				numbers[place] = number
				line := word + " " + strings.Join(numbers, " ")
				if word == "fix" {
					line += " A"
				}
				if word == "fix" && place == 4 && number == "0 " { // the text begins with a blank
					continue
				}
				got, e := Run(example(), line+"\n")
				_, want := plainly(example(), line)
				if e != api.OK || got != want+"\n" || i < len(wrong) && got != "error 2\n" || i >= len(wrong) && got == "error 2\n" && word != "after" {
					t.Errorf("%q: %q %v, not %q", line, got, e, want)
				}
			}
		}
	}
}

func TestFixP10_1(t *testing.T) {
	replies(t, example(),
		"fix 0 5 0 0 1 ", "ok", "words 0 0", "RMA", "fix 0 5 0 0 3 ", "error 7", "words 0 0", "RMA",
		"fix 1 1 0 3 3 <X Y>", "ok", "words 0 0", "RMAX Y", "stone 0 0", "RMA",
		"fix 0 5 1 3 7 [.]", "ok", "words 0 1", "ARM.QVE BCD-", "stone 0 1", "Ar..QABD_-", "words 0 0", "RMAX Y", "words 1 0", "CANO",
		"fix 1 2 0 4 4 < V>", "error 2", "fix 1 2 0 4 4 <V", "error 2", "fix 1 2 0 0 4 [---]", "ok", "fix 1 2 0 1 1 [---]", "error 4",
		"fix 1 2 0 0 0 _", "ok", "stone 1 0", "_-", "fix 1 2 0 0 3 A", "error 1", "fix 1 2 0 2 1 A", "error 1", "fix 1 2 0 -1 1 A", "error 1")
	replies(t, example(), // each error, and which one comes first
		"fix 2 3 9 -1 0 [", "error 3", "fix -1 3 9 -1 0 [", "error 3", "fix 0 3 9 -1 0 [", "error 11", "fix 0 0 9 -1 0 [", "error 11",
		"fix 0 -5 0 0 1 A", "error 11", "fix 0 9999 0 0 1 A", "error 11", "fix 0 2 0 0 1 A", "error 11", "fix 1 5 0 0 1 A", "error 11",
		"fix 0 5 2 -1 0 [", "error 3", "fix 0 5 -1 -1 0 [", "error 3", "fix 1 2 1 0 1 A", "error 3", "fix 0 5 0 -1 0 [", "error 1",
		"fix 0 5 0 0 5 [", "error 1", "fix 0 5 0 1 0 [", "error 1", "fix 0 5 0 5 5 ", "error 1", "fix 0 5 0 4 4 [", "error 2", "fix 0 5 0 4 4 ", "error 7",
		"fix 0 5 0 0 4 ", "error 7", "fix 0 5 1 8 10 ", "ok", "fix 0 5 1 0 17 A", "error 1", "fix 0 5 1 0 15 ", "error 7", "fix 0 5 1 9 15 ", "error 5",
		"fix 0 5 0 0 0 "+strings.Repeat("A", 121), "error 10")
	replies(t, example(),
		"fix 0 5 0 0 0 "+strings.Repeat("A", 20), "ok", "fix 0 5 0 0 0 A", "error 6", "fix 0 5 0 0 1 A", "ok", "fix 0 5 0 0 0 "+strings.Repeat("A", 25), "error 2",
		"fix 0 5 0 0 24 "+strings.Repeat("A'", 24), "ok", "stone 0 0", strings.Repeat("a", 24), "fix 0 5 0 0 1 A B", "error 6", "fix 0 5 0 0 2 A B", "error 6", "fix 0 5 0 0 3 A B", "ok")
}

// TestConvictedP10_1 has stones that become convicted by a line of the book.
func TestConvictedP10_1(t *testing.T) {
	replies(t, example(),
		"fix 0 5 0 0 1 X", "ok", "held 0 0 0 0", "ok", "shows 0 0", "ok", "trial 0", "open", "why 0", "error 11", "fix 0 5 0 0 1 Y", "ok", "held 0 -1 0 0", "ok",
		"claim 0", "ok", "trial 0", "no", "why 0", "-2 0", "fix 0 5 0 0 1 Z", "error 9", "fix 1 1 0 0 1 Z", "error 9", "words 0 0", "YRMA",
		"held 0 -1 0 0", "error 9", "fix 1 2 0 0 1 Z", "ok", "held 0 -1 0 1", "ok", "words 1 0", "ZANO", "stone 0 0", "YRMA", "years 0", "50 60", "fill 0 0", "0")
	replies(t, example(), // which error comes first
		"claim 0", "ok", "shows 0 0", "ok", "fix 0 5 0 0 1 [", "error 2", "fix 0 5 0 0 9 A", "error 1", "fix 0 5 7 0 1 A", "error 3", "fix 0 6 0 0 1 A", "error 11", "fix 2 5 0 0 1 A", "error 3",
		"fix 0 5 0 0 4 ", "error 7", "fix 0 5 0 0 1 A", "error 9", "held 9 9 9 0", "error 9", "held 9 9 9 2", "error 3", "held 9 0 0 1", "error 3", "held 0 0 0 0", "error 9",
		"renumber", "ok", "fix 2 1 0 0 1 A", "error 9", "span 0 50 59", "ok", "years 0", "50 59", "claim 0", "ok", "find 0 5", "0", "life 0", "0 40 50 100", "trial 1", "yes")
	report, e := Report(example(), "claim 0\nshows 0 0\nfix 0 5 0 0 1 X\n")
	if want := "stone 0 5 1 50 60 no\nstone 1 0 2 100 120 yes\n CANO\nman 0 0 40 50 100\nman 1 60 90 100 150\nend 0\n"; report != want || e != api.OK {
		t.Errorf("%q %v", report, e)
	}
}

func TestRenumberP10_1(t *testing.T) {
	replies(t, example(),
		"find 2 1", "error 3", "renumber", "ok", "find 2 1", "0", "find 2 2", "1", "find 2 3", "error 11", "find 0 5", "0", "find 1 1", "0", "find 1 2", "1",
		"renumber", "error 6", "find 3 1", "error 3", "fix 2 2 0 0 1 A", "ok", "words 1 0", "AANO")
}

func TestDatesP10_1(t *testing.T) {
	replies(t, example(),
		"span 0 55 70", "ok", "years 0", "55 60", "after 1 0 50 55", "ok", "years 1", "105 115", "years 0", "55 60", "span 1 110 110", "ok", "years 1", "110 110",
		"after 0 1 -54 -1", "ok", "years 0", "56 60", "span 0 -100 56", "ok", "years 0", "56 56", "span 0 57 57", "error 9", "years 0", "56 56",
		"span 0 56 56", "ok", "span 0 56 56", "error 6", "after 0 0 0 0", "error 6", "years 2", "error 3", "years -1", "error 3", "years 1", "110 110")
	replies(t, example(), // each error, and which one comes first
		"span 2 5000 1", "error 3", "span -1 5000 1", "error 3", "span 0 3001 1", "error 1", "span 0 1 -3001", "error 1", "span 0 2 1", "error 5", "span 0 -3000 3000", "ok",
		"after 2 9 9 8", "error 3", "after 0 2 9 8", "error 3", "after 0 -1 9 8", "error 3", "after 0 0 9 8", "error 2", "after 0 1 9 8", "error 5", "after 0 1 3001 8", "error 1",
		"after 1 1 1 1", "error 2", "after 0 1 1 1", "error 9", "after 1 0 1 39", "error 9", "after 1 0 1 40", "ok", "years 0", "60 60", "years 1", "100 100")
}

func TestPeopleP10_1(t *testing.T) {
	replies(t, example(),
		"held 1 1 1 1", "ok", "life 1", "60 90 100 150", "life 0", "0 40 50 100", "held 1 -1 0 1", "ok", "held 0 0 0 0", "ok", "life 0", "0 35 50 100",
		"kin 0 1", "ok", "life 0", "0 35 59 100", "kin 0 1", "ok", "held 1 0 1 0", "error 9", "kin 1 0", "error 9", "life 1", "60 90 101 150", "life 2", "error 3", "life -1", "error 3")
	replies(t, example(), // a town that is far in the same year, and one that is not
		"span 1 110 110", "ok", "held 1 -1 0 1", "ok", "held 1 -1 1 1", "error 9", "held 1 -1 0 1", "ok", "life 1", "60 90 110 150")
	replies(t, example(), // each error, and which one comes first
		"held 9 9 9 9", "error 3", "held 0 0 0 2", "error 3", "held 0 0 0 -1", "error 3", "held 2 0 0 0", "error 3", "held -1 0 0 0", "error 3", "held 0 2 0 0", "error 3", "held 0 -2 0 0", "error 3",
		"held 0 0 2 0", "error 3", "held 0 0 -1 0", "error 3", "held 0 1 1 0", "ok", "held 0 -1 0 0", "ok", "kin 2 0", "error 3", "kin 0 2", "error 3", "kin -1 0", "error 3", "kin 0 -1", "error 3",
		"kin 0 0", "error 4", "kin 1 1", "error 4", "kin 2 2", "error 3", "kin 1 0", "error 9")
}

func TestTrialsP10_1(t *testing.T) {
	three := with(func(d *api.Desk) {
		d.Dossier.Traits = append(d.Dossier.Traits, d.Dossier.Traits[0], d.Dossier.Traits[0])
		d.Dossier.Cases[1].Shows = []int{1}
	})
	replies(t, three,
		"shows 1 0", "ok", "shows 1 2", "ok", "shows 1 0", "error 4", "shows 1 1", "error 4", "shows 1 2", "error 4", "shows 1 3", "error 3", "shows 1 -1", "error 3",
		"shows 0 2", "ok", "shows 0 1", "ok", "shows 2 0", "error 3", "shows -1 0", "error 3", "shows 9 9", "error 3", "trial 0", "open", "trial 1", "yes")
	if d := kept(t, three, "shows 1 0\nshows 1 2\nshows 0 2\nshows 0 1\nshows 0 1\n"); !slices.Equal(d.Dossier.Cases[1].Shows, []int{0, 1, 2}) || !slices.Equal(d.Dossier.Cases[0].Shows, []int{1, 2}) {
		t.Error(d.Dossier)
	}
	replies(t, example(),
		"trial 0", "open", "trial 1", "yes", "trial 2", "error 3", "trial -1", "error 3", "why 2", "error 3", "why -1", "error 3", "why 0", "error 11", "why 1", "error 11",
		"shows 1 0", "ok", "trial 1", "yes", "shows 1 0", "error 4", "shows 0 0", "ok", "trial 0", "open")
	late := with(func(d *api.Desk) { d.Dossier.Cases[1].Cut = to(60, 69) })
	replies(t, late, "shows 1 0", "error 9", "trial 1", "yes", "why 1", "error 11", "shows 1 9", "error 3") // it was dug out
}

// TestClaimsP10_1 has claims that leave one year, and none.
func TestClaimsP10_1(t *testing.T) {
	replies(t, example(), "claim 2", "error 3", "claim -1", "error 3", "claim 1", "ok", "claim 1", "ok", "trial 1", "yes", "claim 0", "ok", "claim 0", "ok")
	for _, c := range []struct {
		cut, want api.Span
		reply     string
	}{
		{to(60, 90), to(60, 60), "ok"},
		{to(61, 90), to(61, 90), "error 9"},
		{to(-9, 50), to(50, 50), "ok"},
		{to(-9, 49), to(-9, 49), "error 9"},
		{to(-3000, 3000), to(50, 60), "ok"},
		{to(52, 57), to(52, 57), "ok"},
		{to(55, 55), to(55, 55), "ok"},
		{to(50, 60), to(50, 60), "ok"},
		{to(45, 55), to(50, 55), "ok"},
	} {
		d := with(func(d *api.Desk) { d.Dossier.Cases[0].Cut = c.cut })
		replies(t, d, "claim 0", c.reply, "years 0", "50 60")
		if d = kept(t, d, "claim 0\n"); d.Dossier.Cases[0].Cut != c.want || d.Dossier.Cases[1].Cut != to(90, 130) {
			t.Error(c, d.Dossier)
		}
	}
	// A stone that was dug out cannot have been cut after it was seen.
	early := with(func(d *api.Desk) { d.Dossier.Cases[1].Seen = to(95, 99) })
	replies(t, early, "claim 1", "error 9", "trial 1", "yes", "span 1 100 100", "ok", "claim 1", "error 9")
	if d := kept(t, early, "claim 1\n"); d.Dossier.Cases[1].Cut != to(90, 130) {
		t.Error(d.Dossier)
	}
}

func TestAskedP10_1(t *testing.T) {
	replies(t, example(),
		"find 0 5", "0", "find 1 1", "0", "find 1 2", "1", "find 0 2", "error 11", "find 0 0", "error 1", "find 1 1000", "error 1", "find 1 999", "error 11", "find 0 -1", "error 1",
		"find 2 1", "error 3", "find -1 0", "error 3", "find 2 0", "error 3", "stone 0 0", "ARMA", "stone 0 2", "error 3", "stone 0 -1", "error 3", "stone 1 1", "error 3", "stone 2 0", "error 3", "stone -1 0", "error 3",
		"words 0 2", "error 3", "words 0 -1", "error 3", "words 1 0", "CANO", "words 1 1", "error 3", "words 2 0", "error 3", "words -1 0", "error 3",
		"fill 0 2", "error 3", "fill 0 -1", "error 3", "fill 1 0", "1", "fill 1 1", "error 3", "fill 2 0", "error 3", "fill -1 0", "error 3", "years 1", "100 120")
	empty := with(func(d *api.Desk) { d.Edition.Slabs[1].Lines = []string{"_", "<A>", "{B}"} })
	replies(t, empty, "words 1 0", "", "stone 1 0", "_", "stone 1 1", "", "words 1 1", "A", "words 1 2", "", "stone 1 2", "B", "fill 1 0", "error 7", "fill 1 2", "error 7")
	if report, e := Report(empty, ""); !strings.Contains(report, "yes\n \n A\n \nman") || e != api.OK {
		t.Errorf("%q %v", report, e)
	}
}

// TestFillP10_1 has lines of each kind of sign, and some that are no valid rows.
func TestFillP10_1(t *testing.T) {
	d := with(func(d *api.Desk) { d.Lexicon = lexicon("A", "B", "AC") })
	d.Lexicon.Words[2].Form = 1
	d.Lexicon.First, d.Lexicon.Last = []bool{true, true}, []bool{true, true}
	d.Lexicon.Next = [][]bool{{false, false}, {true, false}} // AC may be followed by one more word
	for line, reply := range map[string]string{
		"A":                         "1",
		"C":                         "0",
		"<A>":                       "1",
		"<C>":                       "0",
		"(A)":                       "1",
		"(C)":                       "0",
		"#A#":                       "1",
		"#C#":                       "0",
		"A'":                        "2",
		"C'":                        "2",
		"[A]":                       "2",
		"[C]":                       "2",
		"[.]":                       "2",
		"{A}":                       "error 7",
		"_":                         "error 7",
		"{A}_":                      "error 7",
		"[---]":                     "5",
		"{A}C":                      "0",
		"{C}A":                      "1",
		"_A":                        "1",
		"A_":                        "1",
		"A C":                       "1",
		"A C A":                     "1",
		"[. .]":                     "1",
		"A<C>[.]":                   "2",
		"A(C)#B#":                   "1",
		"A'C'B'":                    "2",
		"[---]A":                    "2",
		"[---]B":                    "2",
		"A[---]":                    "4",
		"[---]_[---]":               "15",
		"[---]_[---]_[---]":         "32",
		"[---]_[---]_[---][.]":      "17",
		"[---]A[---]A[---]A":        "0",
		"[---]_[---]_[---]_":        "32",
		"[---]{A}[---]{A}[---]":     "32",
		"[---]_[---]_[---]A[---]_":  "error 6",
		"[---]{A}[---]_[---] [---]": "error 6",
		strings.Repeat("A", 24):     "0",
		strings.Repeat("[.]_", 12):  "0",
	} {
		d.Edition.Slabs[1].Lines[0] = line
		row, _ := edition.Signs(line)
		if many, e := gap.Count(d.Lexicon, plainRow(row)); e == api.OK && strconv.Itoa(many) != reply {
			t.Errorf("%s: the layers say %d", line, many)
		}
		replies(t, d, "fill 1 0", reply)
	}
	wide := with(func(d *api.Desk) { // of 100 letters each of which is 10 wide, no more than 10 are in a gap
		d.Lexicon = lexicon("AAAAAAAA", "A")
		d.Lexicon.Widths = slices.Repeat([]api.Span{to(100, 100)}, 26)
		d.Edition.Slabs[1].Lines[0] = "[---]"
	})
	many, e := gap.Count(wide.Lexicon, []api.Cell{{Gap: true, Width: to(0, 1000)}})
	if e != api.OK || many < 10 {
		t.Error(many, e)
	}
	replies(t, wide, "fill 1 0", strconv.Itoa(many))
}

// limits is a desk all lists of which are at their limits but for one.
func limits() api.Desk {
	d := example()
	for range api.MaxNotes - 2 - 1 {
		d.Dating.Notes = append(d.Dating.Notes, api.Note{Kind: api.NoteSpan, Span: to(40, 60)})
	}
	for range api.MaxRecords - 1 {
		d.Roll.Records = append(d.Roll.Records, api.Record{Man: 1, Office: -1, When: to(100, 110)})
	}
	for range api.MaxTraits - 1 {
		d.Dossier.Traits = append(d.Dossier.Traits, d.Dossier.Traits[0])
	}
	d.Dossier.Cases[1].Shows = []int{0, 1, 2, 4, 5}
	d.Edition.Slabs[1].Lines[0] = strings.Repeat("A", 23)
	return d
}

func TestLimitsP10_1(t *testing.T) {
	replies(t, limits(), "after 1 0 40 70", "ok", "span 0 50 60", "error 6", "after 1 0 40 70", "error 6", "after 2 0 40 70", "error 6", "span 0 1 0", "error 6", "years 0", "50 60")
	replies(t, limits(), "kin 0 1", "ok", "kin 0 1", "error 6", "held 1 -1 0 1", "error 6", "kin 9 9", "error 6", "held 9 9 9 1", "error 6", "held 1 -1 0 2", "error 3", "life 0", "0 40 59 100")
	replies(t, limits(), "held 1 -1 0 1", "ok", "held 1 -1 0 1", "error 6", "kin 0 1", "error 6", "shows 1 3", "ok", "shows 1 3", "error 4", "shows 1 6", "error 3")
	replies(t, limits(), "fix 1 2 0 0 0 A", "ok", "fix 1 2 0 0 0 A", "error 6", "fix 1 2 0 0 1 B", "ok", "renumber", "ok", "renumber", "error 6", "words 1 0", "B"+strings.Repeat("A", 23))
	d := kept(t, limits(), "after 1 0 40 70\nkin 0 1\nshows 1 3\nfix 1 2 0 0 0 A\nrenumber\n")
	if len(d.Dating.Notes) != api.MaxNotes || len(d.Roll.Records) != api.MaxRecords || len(d.Dossier.Cases[1].Shows) != api.MaxTraits || d.Edition.Books != api.MaxBooks {
		t.Error(d)
	}
	replies(t, d, "after 1 0 40 70", "error 6", "kin 0 1", "error 6", "shows 1 3", "error 4", "fix 1 2 0 0 0 A", "error 6", "renumber", "error 6")
	five := with(func(d *api.Desk) { // all stones that there may be
		d.Edition.Slabs, d.Dating, d.Dossier.Cases = nil, api.Dating{Stones: api.MaxSlabs}, nil
		for i := range api.MaxSlabs {
			d.Edition.Slabs = append(d.Edition.Slabs, api.Slab{Numbers: []int{999 - i, i}, Lines: []string{"A", "B", "C", string(rune('D' + i))}})
			d.Dossier.Cases = append(d.Dossier.Cases, example().Dossier.Cases[1])
		}
	})
	replies(t, five, "find 0 995", "4", "words 4 3", "H", "words 5 0", "error 3", "words 4 4", "error 3", "years 4", "-3000 3000", "span 4 -3000 -3000", "ok", "years 4", "-3000 -3000", "years 5", "error 3", "trial 4", "yes", "claim 4", "error 9", "renumber", "ok", "find 2 5", "4")
}

// TestRefusedP10_1 has lines that are refused between lines that are not.
func TestRefusedP10_1(t *testing.T) {
	replies(t, example(),
		"years 0", "50 60", "span 0 70 80", "error 9", "years 0", "50 60", "span 0 1 0", "error 5", "span 0 55 80", "ok", "years 0", "55 60", "after 1 0 0 10", "error 9", "years 1", "100 120",
		"held 1 0 0 0", "error 9", "life 1", "60 90 100 150", "kin 1 0", "error 9", "kin 0 1", "ok", "life 0", "0 40 59 100", "held 0 0 0 0", "ok", "life 0", "0 35 59 100",
		"shows 0 1", "error 3", "trial 0", "open", "fix 0 5 0 0 4 ", "error 7", "words 0 0", "ARMA", "shows 0 0", "ok", "trial 0", "open", "claim 0", "ok", "trial 0", "no")
	d := kept(t, example(), "span 0 70 80\nafter 1 0 0 10\nkin 1 0\nheld 1 0 0 0\nshows 0 1\nfix 0 5 0 0 4 \nclaim 9\nx\nrenumber 1\n")
	if !equal(d, example()) {
		t.Error(d)
	}
}

func TestKeepP10_2(t *testing.T) {
	d := kept(t, example(), "fix 0 5 0 1 3 [..]\nspan 1 110 130\nafter 1 0 -5 70\nheld 0 1 0 1\nheld 0 0 1 0\nkin 0 1\nshows 0 0\nfix 1 2 0 0 0 X\nclaim 1\nkin 1 1\nrenumber\nyears 0\n")
	want := example()
	want.Edition.Books = 3
	want.Edition.Slabs[0].Numbers = []int{5, 1, 1}
	want.Edition.Slabs[1].Numbers = []int{0, 2, 2}
	want.Edition.Slabs[0].Lines[0] = "A[..]A"
	want.Edition.Slabs[1].Lines[0] = "XCANO"
	want.Dating.Notes = append(want.Dating.Notes, api.Note{Kind: api.NoteSpan, Stone: 1, Span: to(110, 130)}, api.Note{Kind: api.NoteAfter, Stone: 1, Other: 0, Span: to(-5, 70)})
	want.Roll.Records = []api.Record{{Man: 0, Office: 0, Town: 1, When: to(50, 60)}, {Kin: true, Man: 0, Child: 1}}
	want.Dossier.Cases[0].Shows = []int{0}
	want.Dossier.Cases[1].Cut = to(110, 120)
	if !equal(d, want) {
		t.Errorf("%v, not %v", d, want)
	}
}

func TestReportP10_3(t *testing.T) {
	for book, want := range map[string]string{
		"": "stone 0 5 1 50 60 open\n ARMA\n ARMA ..QVE BCD-\nstone 1 0 2 100 120 yes\n CANO\nman 0 0 40 50 100\nman 1 60 90 100 150\nend 0\n",
		"claim 0\nshows 0 0\nheld 0 0 0 0\nkin 0 1\nrenumber\n":            "stone 0 5 1 1 50 60 no\nstone 1 0 2 2 100 120 yes\n CANO\nman 0 0 40 59 100\nman 1 60 90 100 150\nend 1\n",
		"held 0 0 0 0\nkin 0 1\nspan 0 -9 55\nclaim 0\nfix 0 5 1 1 17 _\n": "stone 0 5 1 50 55 open\n ARMA\n A\nstone 1 0 2 100 120 yes\n CANO\nman 0 0 35 59 100\nman 1 60 90 100 150\nend 2\n",
	} {
		if report, e := Report(example(), book); report != want || e != api.OK {
			t.Errorf("%q: %q %v", book, report, e)
		}
	}
	below := with(func(d *api.Desk) {
		d.Dating.Notes[0].Span = to(-60, -50)
		d.Roll.Men[0].Born, d.Roll.Men[0].Died = to(-90, -80), to(-30, 0)
	})
	if report, e := Report(below, "years 1\n"); !strings.HasPrefix(report, "stone 0 5 1 -60 -50 open\n") || !strings.Contains(report, "\nman 0 -90 -80 -30 0\n") || e != api.OK {
		t.Errorf("%q %v", report, e)
	}
}

// wild are numbers far outside all limits, and some within.
func wild(i int) int {
	list := []int{0, 1, 2, 3, 4, 5, -1, -2, 6, 999, 1000, 3000, 3001, -3000, -3001, math.MinInt, math.MinInt + 5, math.MaxInt, math.MaxInt - 5}
	return list[(i%len(list)+len(list))%len(list)]
}

// wilder returns the desk K with a wild number somewhere, or with lists that are much too long.
func wilder(i int) api.Desk {
	d := example()
	n, m := wild(i/7), wild(i/5+3)
	numbers := []*int{
		&d.Edition.Books, &d.Edition.Slabs[0].Numbers[0], &d.Edition.Slabs[1].Numbers[1], &d.Dating.Stones, &d.Dating.Notes[0].Kind, &d.Dating.Notes[1].Stone, &d.Dating.Notes[0].Other,
		&d.Dating.Notes[0].Span.Low, &d.Dating.Notes[1].Span.High, &d.Roll.Offices[0].Age, &d.Roll.Offices[1].Gap, &d.Roll.Offices[1].Again, &d.Roll.Life, &d.Roll.Parents.Low, &d.Roll.Men[0].Name,
		&d.Roll.Men[0].Born.Low, &d.Roll.Men[1].Died.High, &d.Dossier.Begin, &d.Dossier.Most, &d.Dossier.Shops, &d.Dossier.Traits[0].From.Low, &d.Dossier.Traits[0].Known.High,
		&d.Dossier.Cases[0].Cut.Low, &d.Dossier.Cases[1].Seen.High, &d.Dossier.Cases[1].Shop, &d.Lexicon.Words[0].Form, &d.Lexicon.Widths[4].Low, &d.Lexicon.Widths[25].High,
	}
	*numbers[i%len(numbers)] = n
	switch i % 23 {
	case 0:
		d.Roll.Records = []api.Record{{Kin: i%2 == 0, Man: n, Child: m, Office: m, Town: n, When: to(n, m)}}
	case 1:
		d.Dossier.Cases[0].Shows = []int{n, m}
	case 2:
		d.Edition.Slabs = slices.Repeat(d.Edition.Slabs, 1000)
	case 3:
		d.Dating.Notes = slices.Repeat(d.Dating.Notes, 1000)
	case 4:
		d.Lexicon.Words = slices.Repeat(d.Lexicon.Words, 1000)
	case 5:
		d.Edition.Slabs[0].Lines[0] = strings.Repeat("A", 100000)
	case 6:
		d.Roll.Far = [][]bool{{}, nil}
	case 7:
		d.Lexicon.Next = [][]bool{nil}
	}
	return d
}

func TestAnyArgumentsP1(t *testing.T) {
	bytes := "fixspanclmrehldtowyu 0123-\n\xff\x00[]"
	valid, ended := 0, 0
	for i := range 10000 {
		d := example()
		if i%2 == 0 {
			d = wilder(i / 2)
		}
		book := "fix 0 5 0 0 1 [.]\nspan 0 50 60\nafter 1 0 0 70\nheld 0 0 0 1\nkin 0 1\nshows 0 0\nclaim 0\nwhy 0\nfill 0 1\nrenumber\n"
		for k := range i % 5 {
			at := (i*7 + k*31) % len(book)
			book = book[:at] + bytes[(i+k)%len(bytes):][:1] + book[at+i%2:]
		}
		e := Check(d)
		errors, left := errorsOf(d, book)
		if e == api.OK {
			valid++
			if !strings.HasSuffix(book, "\n") {
				e = api.ErrShape
			} else {
				ended++
			}
		}
		if slices.Min(errors) != e || slices.Max(errors) != e || e != api.OK && left {
			t.Fatalf("%d: %v %q: %v, not %v", i, d, book, errors, e)
		}
	}
	if min(valid, ended) < 3000 {
		t.Error("too few are valid:", valid, ended)
	}
	refused(t, "a huge book", example(), strings.Repeat("years 0\n", 1<<20), api.ErrLong)
}

// TestStoppedP1 stops while lines are handed out.
func TestStoppedP1(t *testing.T) {
	handed := lines("a\nb\n")
	for range 2 { // each time from the start
		for line := range handed {
			if line != "a" {
				t.Error(line)
			}
			break
		}
	}
	if list := slices.Collect(lines("a\n\nb\n\n")); !slices.Equal(list, []string{"a", "", "b", ""}) {
		t.Errorf("%q", list)
	}
}

// TestTried tests that no panic but that of an error is taken for one.
func TestTried(t *testing.T) {
	if e := tried(func() {}); e != api.OK {
		t.Error(e)
	}
	if e := tried(func() { taken(1, api.ErrOpen) }); e != api.ErrOpen {
		t.Error(e)
	}
	defer func() {
		if cause := recover(); cause != "another one" {
			t.Error(cause)
		}
	}()
	tried(func() { panic("another one") })
	t.Error("it was taken for an error")
}

// roomy returns a desk with room behind each list, so that whoever appends to one of them writes there.
func roomy() api.Desk {
	d := example()
	for i := range d.Edition.Slabs {
		d.Edition.Slabs[i].Numbers = slices.Grow(d.Edition.Slabs[i].Numbers, 9)
		d.Edition.Slabs[i].Lines = slices.Grow(d.Edition.Slabs[i].Lines, 9)
		d.Dossier.Cases[i].Shows = slices.Grow(d.Dossier.Cases[i].Shows, 9)
	}
	d.Dating.Notes = slices.Grow(d.Dating.Notes, 9)
	d.Roll.Records = slices.Grow(d.Roll.Records, 9)
	return d
}

const changing = "fix 0 5 0 0 1 X\nfix 1 2 0 0 0 Y\nrenumber\nspan 0 50 59\nafter 1 0 1 99\nheld 0 0 0 0\nkin 0 1\nshows 0 0\nshows 1 0\nclaim 0\nclaim 1\n"

func TestArgumentsStayR4(t *testing.T) {
	for _, book := range []string{"", changing, changing[:60] + "\n", "fix 0 5 0 0 4 \nspan 0 70 80\nkin 1 0\nshows 0 1\n"} {
		d := roomy()
		Check(d)
		if errors, _ := errorsOf(d, book); slices.Max(errors) != api.OK {
			t.Error(errors)
		}
		if !equal(d, example()) {
			t.Error(d)
		}
		for i, s := range d.Edition.Slabs {
			if s.Numbers[:5][3] != 0 || s.Lines[:5][3] != "" || len(d.Dossier.Cases[i].Shows[:3]) != 3 || d.Dossier.Cases[i].Shows[:3][0] != 0 {
				t.Error(d)
			}
		}
		if !reflect.DeepEqual(d.Dating.Notes[:5][2], api.Note{}) || d.Roll.Records[:1][0] != (api.Record{}) {
			t.Error(d)
		}
	}
}

// spoil changes everything that can be changed in a desk.
func spoil(d api.Desk) {
	for _, s := range d.Edition.Slabs {
		_, _ = append(s.Numbers, 7), append(s.Lines, "Q")
		clear(s.Numbers)
		clear(s.Lines)
	}
	for _, n := range d.Dating.Notes {
		_ = append(n.Years, 7)
		clear(n.Years)
	}
	for _, l := range slices.Concat(d.Roll.Far, d.Lexicon.Next) {
		_ = append(l, true)
		clear(l)
	}
	for _, c := range d.Dossier.Cases {
		_ = append(c.Shows, 7)
		clear(c.Shows)
	}
	clear(d.Edition.Slabs)
	clear(d.Dating.Eras)
	clear(d.Dating.Notes)
	clear(d.Roll.Offices)
	clear(d.Roll.Far)
	clear(d.Roll.Men)
	clear(d.Roll.Records)
	clear(d.Dossier.Traits)
	clear(d.Dossier.Cases)
	clear(d.Lexicon.Words)
	clear(d.Lexicon.First)
	clear(d.Lexicon.Last)
	clear(d.Lexicon.Next)
	clear(d.Lexicon.Widths)
}

// full is a desk each list of which has something.
func full() api.Desk {
	return with(func(d *api.Desk) {
		d.Dating.Eras = []api.Span{to(1, 2)}
		d.Dating.Notes = append(d.Dating.Notes, api.Note{Kind: api.NoteYears, Years: []int{50, 55, 60}})
		d.Roll.Records = []api.Record{{Kin: true, Child: 1}}
		d.Dossier.Cases[1].Shows = []int{0}
	})
}

// TestResultsApartR4 changes results, which must change neither an argument nor another result.
func TestResultsApartR4(t *testing.T) {
	for _, book := range []string{"", "years 0\n", "span 9 9 9\n", "renumber\n", "fix 1 2 0 0 0 Y\n", changing} {
		d := full()
		first, _ := Keep(d, book)
		second, _ := Keep(d, book)
		same := cloned(second)
		spoil(first)
		if !equal(d, full()) || !equal(second, same) {
			t.Errorf("%q: %v %v", book, d, second)
		}
		spoil(d)
		if !equal(second, same) {
			t.Errorf("%q: %v", book, second)
		}
		for _, s := range same.Edition.Slabs { // no two lists of one result are the same memory
			_, _ = append(s.Numbers, 7), append(s.Lines, "Q")
		}
		second.Roll.Far[0][1] = !second.Roll.Far[0][1]
		second.Edition.Slabs[0].Lines = append(second.Edition.Slabs[0].Lines[:1], "Q")
		if second.Roll.Far[1][0] != same.Roll.Far[1][0] || !slices.Equal(second.Edition.Slabs[1].Lines, same.Edition.Slabs[1].Lines) {
			t.Errorf("%q: %v", book, second)
		}
	}
}

func TestNilAsEmptyR4(t *testing.T) {
	a := with(func(d *api.Desk) { d.Roll.Offices, d.Dossier.Traits = nil, nil })
	b := with(func(d *api.Desk) {
		d.Dating.Eras, d.Dating.Notes[0].Years = []api.Span{}, []int{}
		d.Roll.Offices, d.Roll.Records = []api.Office{}, []api.Record{}
		d.Dossier.Traits, d.Dossier.Cases[0].Shows = []api.Trait{}, []int{}
	})
	const book = "held 0 -1 0 0\nspan 0 51 52\nlife 0\nshows 0 0\nfill 0 1\n"
	for _, text := range []string{"", book} {
		first, e := Run(a, text)
		second, f := Run(b, text)
		if first != second || e != api.OK || f != api.OK {
			t.Error(first, second, e, f)
		}
		if c, d := kept(t, a, text), kept(t, b, text); !equal(c, d) {
			t.Error(c, d)
		}
	}
}

// TestLayersP10_1 tests that what makes a desk wrong is what the layers say, by themselves.
func TestLayersP10_1(t *testing.T) {
	for i, layer := range layers[:5] {
		for k, wrong := range layer {
			d := with(wrong.change)
			_, e := date.Years(d.Dating)
			_, _, f := career.Lives(d.Roll)
			_, g := forge.Genuine(d.Dossier)
			if list := []api.Errno{edition.CheckAll(d.Edition), e, f, g, gap.Check(d.Lexicon)}; list[i] != wrong.want {
				t.Error(i, k, list, wrong.want)
			}
		}
	}
}
