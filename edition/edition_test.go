package edition

import (
	"errors"
	"math"
	"reflect"
	"slices"
	"strings"
	"testing"

	"cippus/api"
)

// lineErrors returns what each function that takes a line says is wrong, and whether any other result is not a zero value.
func lineErrors(l []api.Sign) (list []api.Errno, left bool) {
	text, e1 := Print(l)
	stone, e2 := Stone(l)
	words, e3 := Words(l)
	squares, e4 := Squares(l)
	left = text != "" || stone != "" || words != "" || squares != api.Span{}
	return []api.Errno{Check(l), e1, e2, e3, e4}, left
}

// checkLine tests that a line has that error, by all functions that take one.
func checkLine(t *testing.T, name string, l []api.Sign, want api.Errno) {
	t.Helper()
	errors, left := lineErrors(l)
	if slices.Min(errors) != want || slices.Max(errors) != want || want != api.OK && left {
		t.Error(name, l, errors, left, want)
	}
}

func TestCheckP9_1(t *testing.T) {
	for words, want := range map[string]api.Errno{
		lineT:                          api.OK,
		"":                             api.ErrFew,
		"sA":                           api.OK,
		"g":                            api.OK,
		"f":                            api.OK,
		"l.":                           api.OK,
		"b":                            api.ErrSequence,
		"b sA":                         api.ErrSequence,
		"sA b":                         api.ErrSequence,
		"sA b b sA":                    api.ErrSequence,
		"sA b sA b sA":                 api.OK,
		"sA b f b sA":                  api.OK,
		"g b":                          api.ErrSequence,
		"b g":                          api.ErrSequence,
		"g b g":                        api.OK,
		"g g":                          api.ErrTwice,
		"sA g g":                       api.ErrTwice,
		"g sA g":                       api.OK,
		"g f g f g":                    api.OK,
		"f f f":                        api.OK,
		"sA sA dA dA aA aA xA xA":      api.OK,
		"g g b":                        api.ErrTwice,
		"sA b b g g":                   api.ErrSequence,
		"g g sA b b sA":                api.ErrTwice,
		"sA b gA":                      api.ErrShape,
		"sA b ?A":                      api.ErrSort,
		"b sa":                         api.ErrSequence,
		"sa b":                         api.ErrShape,
		"? s.":                         api.ErrSort,
		"s. ?":                         api.ErrShape,
		"g g ?":                        api.ErrTwice,
		"g ? g":                        api.ErrSort,
		"g gA":                         api.ErrShape,
		"sA b bA sA":                   api.ErrShape,
		"bA":                           api.ErrShape,
		"?A b":                         api.ErrSort,
		"b ?":                          api.ErrSequence,
		"sA b ?":                       api.ErrSort,
		strings.Repeat("sA ", 24):      api.OK,
		strings.Repeat("sA ", 25):      api.ErrMany,
		strings.Repeat("? ", 24):       api.ErrSort,
		strings.Repeat("? ", 25):       api.ErrMany,
		strings.Repeat("g ", 24):       api.ErrTwice,
		strings.Repeat("b ", 25):       api.ErrMany,
		strings.Repeat("g f ", 12):     api.OK,
		strings.Repeat("sA b ", 12):    api.ErrSequence,
		strings.Repeat("f ", 23) + "g": api.OK,
		strings.Repeat("f ", 23) + "?": api.ErrSort,
		strings.Repeat("f ", 10000):    api.ErrMany,
	} {
		checkLine(t, words, of(words), want)
	}
	checkLine(t, "an empty list", []api.Sign{}, api.ErrFew)
}

// TestKindsP9_1 has each kind of signs, and some that are none, with each letter.
func TestKindsP9_1(t *testing.T) {
	capitals := "ABCDEFGHIJKLMNOPQRSTUVWXYZ"
	letters := []string{1: capitals, 2: capitals, 3: capitals + ".", 4: "\x00", 5: capitals, 6: capitals, 7: capitals, 8: capitals, 9: "\x00", 10: "\x00"}
	a := api.Sign{Kind: api.SignSure, Letter: 'A'}
	for kind := -1; kind < 300; kind++ {
		for letter := range 256 {
			s := api.Sign{Kind: kind, Letter: byte(letter)}
			want := api.ErrSort
			if kind >= 1 && kind <= 10 {
				want = api.ErrShape
				if strings.Contains(letters[kind], string([]byte{s.Letter})) {
					want = api.OK
				}
			}
			if l := []api.Sign{a, s, a}; Check(l) != want {
				t.Fatal(l, Check(l), want)
			} else if kind < 12 && letter%16 < 3 {
				checkLine(t, "a kind", l, want)
			}
		}
	}
	for _, kind := range []int{math.MinInt, math.MaxInt, 1 << 32, 1<<32 + 1, -1 << 63, 256 + 1} {
		checkLine(t, "no kind", []api.Sign{{Kind: kind, Letter: 'A'}}, api.ErrSort)
	}
}

// lines has lines with how they are printed, what is on the stone, what is read, and both numbers of squares.
var lines = map[string]struct {
	text, stone, words string
	low, high          int
}{
	lineT:                        {textT, "Ar....QABD_-", "ARMA ..QVE BCD-", 11, 31},
	"sA sR sM sA":                {"ARMA", "ARMA", "ARMA", 4, 4},
	"dA lR sM":                   {"A'[R]M", "a.M", "ARM", 3, 3},
	"sZ":                         {"Z", "Z", "Z", 1, 1},
	"dA":                         {"A'", "a", "A", 1, 1},
	"dZ dA":                      {"Z'A'", "za", "ZA", 2, 2},
	"lA":                         {"[A]", ".", "A", 1, 1},
	"l.":                         {"[.]", ".", ".", 1, 1},
	"g":                          {"[---]", "-", "-", 0, 20},
	"aA":                         {"<A>", "", "A", 0, 0},
	"vA":                         {"(A)", "", "A", 0, 0},
	"xA":                         {"{A}", "A", "", 1, 1},
	"eA":                         {"#A#", "A", "A", 1, 1},
	"f":                          {"_", "_", "", 1, 1},
	"lA lB l. lC":                {"[AB.C]", "....", "AB.C", 4, 4},
	"aA aB aC":                   {"<ABC>", "", "ABC", 0, 0},
	"vA vB":                      {"(AB)", "", "AB", 0, 0},
	"xA xB":                      {"{AB}", "AB", "", 2, 2},
	"eA eB":                      {"#AB#", "AB", "AB", 2, 2},
	"lA b lB":                    {"[A B]", "..", "A B", 2, 2},
	"l. b l. b l.":               {"[. . .]", "...", ". . .", 3, 3},
	"aA b aB":                    {"<A B>", "", "A B", 0, 0},
	"vA b vB":                    {"(A B)", "", "A B", 0, 0},
	"xA b xB":                    {"{A B}", "AB", " ", 2, 2},
	"eA b eB":                    {"#A B#", "AB", "A B", 2, 2},
	"eA b eB sC":                 {"#A B#C", "ABC", "A BC", 3, 3},
	"sA b sB":                    {"A B", "AB", "A B", 2, 2},
	"dA b dB":                    {"A' B'", "ab", "A B", 2, 2},
	"f b f":                      {"_ _", "__", " ", 2, 2},
	"g b g":                      {"[---] [---]", "--", "- -", 0, 40},
	"g b lA":                     {"[---] [A]", "-.", "- A", 1, 21},
	"lA b g":                     {"[A] [---]", ".-", "A -", 1, 21},
	"lA b sB":                    {"[A] B", ".B", "A B", 2, 2},
	"sA b lB":                    {"A [B]", "A.", "A B", 2, 2},
	"lA b vB":                    {"[A] (B)", ".", "A B", 1, 1},
	"vA b lB":                    {"(A) [B]", ".", "A B", 1, 1},
	"eA b sB b eC":               {"#A# B #C#", "ABC", "A B C", 3, 3},
	"eA b f b eC":                {"#A# _ #C#", "A_C", "A  C", 3, 3},
	"vA b f":                     {"(A) _", "_", "A ", 1, 1},
	"aA b dB":                    {"<A> B'", "b", "A B", 1, 1},
	"xA b eB":                    {"{A} #B#", "AB", " B", 2, 2},
	"lA g lB":                    {"[A][---][B]", ".-.", "A-B", 2, 22},
	"g lA g":                     {"[---][A][---]", "-.-", "-A-", 1, 41},
	"l. g":                       {"[.][---]", ".-", ".-", 1, 21},
	"eA g eB":                    {"#A#[---]#B#", "A-B", "A-B", 2, 22},
	"sA g sB":                    {"A[---]B", "A-B", "A-B", 2, 22},
	"g f g":                      {"[---]_[---]", "-_-", "--", 1, 41},
	"lA aB lC":                   {"[A]<B>[C]", "..", "ABC", 2, 2},
	"vA aB vC":                   {"(A)<B>(C)", "", "ABC", 0, 0},
	"xA aA":                      {"{A}<A>", "A", "A", 1, 1},
	"eA xB eC":                   {"#A#{B}#C#", "ABC", "AC", 3, 3},
	"lA f lB":                    {"[A]_[B]", "._.", "AB", 3, 3},
	"lA dB lC":                   {"[A]B'[C]", ".b.", "ABC", 3, 3},
	"f sA f":                     {"_A_", "_A_", "A", 3, 3},
	"sA dA sA":                   {"AA'A", "AaA", "AAA", 3, 3},
	"lA lB b lC b aD b aE sF":    {"[AB C] <D E>F", "...F", "AB C D EF", 4, 4},
	strings.Repeat("dA ", 24):    {strings.Repeat("A'", 24), strings.Repeat("a", 24), strings.Repeat("A", 24), 24, 24},
	strings.Repeat("lA ", 24):    {"[" + strings.Repeat("A", 24) + "]", strings.Repeat(".", 24), strings.Repeat("A", 24), 24, 24},
	strings.Repeat("g lA ", 12):  {strings.Repeat("[---][A]", 12), strings.Repeat("-.", 12), strings.Repeat("-A", 12), 12, 252},
	strings.Repeat("f g ", 12):   {strings.Repeat("_[---]", 12), strings.Repeat("_-", 12), strings.Repeat("-", 12), 12, 252},
	strings.Repeat("eA vB ", 12): {strings.Repeat("#A#(B)", 12), strings.Repeat("A", 12), strings.Repeat("AB", 12), 12, 12},
}

func TestPrintP9_1(t *testing.T) {
	for words, want := range lines {
		text, e := Print(of(words))
		l, f := Signs(want.text)
		if text != want.text || e != api.OK || f != api.OK || !slices.Equal(l, of(words)) {
			t.Errorf("%q: %q, not %q, %v %v %v", words, text, want.text, e, l, f)
		}
	}
}

func TestStoneP9_2(t *testing.T) {
	for words, want := range lines {
		stone, e := Stone(of(words))
		read, f := Words(of(words))
		squares, g := Squares(of(words))
		if stone != want.stone || read != want.words || squares.Low != want.low || squares.High != want.high || e != api.OK || f != api.OK || g != api.OK {
			t.Errorf("%q: %q %q %v, not %v, %v %v %v", words, stone, read, squares, want, e, f, g)
		}
	}
}

// TestNoLineP9_1 has texts that are not printed for any line; the parts of many of them are.
func TestNoLineP9_1(t *testing.T) {
	for _, text := range []string{
		"", " ", "  ", " A", "A ", "A  B", "A   B", "[A] ", " [A]", "[A]  B", "_ ", " _", "[---] ", " [---]",
		"a", "Aa", "[a]", "(a)", "A.", ".", "..", "-", "---", "--", "=", "@", "`", "/", "0", "1", "A1", "A,", "A;", "A\"", "A`", "~", "?", "A?", "[?]", "*", "|", "A\\", "A^", "A_'",
		"'", "''", "'A", "A''", "_'", " '", "A '", "[A]'", "[A']", "(A')", "<A'>", "{A'}", "#A'#", "[---]'", "[.']", "#A#'", "A'''",
		"[", "]", "[]", "[ ]", "[]A", "A[]", "[A", "A]", "[A]]", "[[A]", "[[A]]", "]A[", "[A[B]]", "[A[B]C]", "[A]B]",
		"[A][B]", "[A] [B]", "[A][B]C", "[.][.]", "[A B][C]", "[A] [B] [C]", "[A B] [C]", "[A ]B", "[ A]", "[A ]", "A[ B]", "[A  B]", "[A]  [B]", "[_]", "[A_B]", "[A _]",
		"(", ")", "()", "( )", "(A", "A)", "(A))", "(.)", "(-)", "(A)(B)", "(A) (B)", "(A )B", "( A)", "(A>", "(A]", "[A)", "(_)", "(A)(B C)", "((A))", "(A[B])", "(A(B)",
		"<", ">", "<>", "<A", "A>", "<.>", "<A><B>", "<A> <B>", "<A )", "<<A>>", "< A>", "<A >", "< >", "<A]", ">A<", "<A(B)>", "<A<B>",
		"{", "}", "{}", "{A", "A}", "{.}", "{A}{B}", "{A} {B}", "{_}", "{ A}", "{A }", "{{A}}", "{A>", "{A{B}",
		"#", "##", "###", "#A", "A#", "#A##", "##A#", "#A##B#", "#A# #B#", "#A B# #C#", "#A#B#", "#.#", "# A#", "#A #", "# #", "#A#B#C", "#[A]#", "[#A#]", "#A B##C#", "#A#B#C##",
		"[-]", "[--]", "[----]", "[-----]", "[---", "---]", "[--]-", "[---]]", "[[---]", "[[---]]", "[A---]", "[---A]", "[A ---]", "[---][---]", "[---][---]A", "[A[---]]", "[A[---]B]", "[[---]A]", "(---)", "<--->", "{---}", "#---#", "[- --]", "[---.]", "[A][---]B]", "[A[---][B]", "(A[---]B)", "#A[---]B#", "[ ---]", "[_--]", "[---] [---][---]",
		"A\n", "\nA", "A\nB", "A\r", "A\t", "A\tB", "\x00", "A\x00", "[\x00]", "\xff", "A\xff", "\xc1", "Ä", "[Ä]", "É", "\u0141", "\u0410", "A\u0301", "A\u2019", "[\u2026]", "\u00a0", "A\u00a0B", "\ufffd", "\u0141'", "\U00010041",
		strings.Repeat("A", 25), "[" + strings.Repeat("A", 25) + "]", strings.Repeat("A ", 12) + "AB", strings.Repeat("A'", 25), strings.Repeat("A B", 9), strings.Repeat("_[---]", 12) + "_", strings.Repeat("[---]", 24), strings.Repeat("[---] ", 11) + "[---]A ",
		strings.Repeat("x", 120), strings.Repeat("[", 120), strings.Repeat("#", 120), strings.Repeat(" ", 120), strings.Repeat("[---][A]", 15), strings.Repeat("'", 120),
	} {
		if l, e := Signs(text); l != nil || e != api.ErrShape {
			t.Errorf("%q: %v %v", text, l, e)
		}
	}
}

func TestLongP9_1(t *testing.T) {
	for text, want := range map[string]api.Errno{
		strings.Repeat("[---][A]", 12):       api.OK,
		strings.Repeat("A", 24):              api.OK,
		strings.Repeat("A", 25):              api.ErrShape,
		strings.Repeat("A", 120):             api.ErrShape,
		strings.Repeat("A", 121):             api.ErrLong,
		strings.Repeat("[---][A]", 15):       api.ErrShape,
		strings.Repeat("[---][A]", 15) + "B": api.ErrLong,
		"A" + strings.Repeat(" ", 119):       api.ErrShape,
		"A" + strings.Repeat(" ", 120):       api.ErrLong,
		strings.Repeat("\u00c4", 60):         api.ErrShape,
		strings.Repeat("\u00c4", 60) + "A":   api.ErrLong,
		strings.Repeat("A", 1000000):         api.ErrLong,
	} {
		if l, e := Signs(text); e != want || (l == nil) != (e != api.OK) {
			t.Errorf("%q: %v %v, not %v", text, l, e, want)
		}
	}
}

// editionErrors returns what each function that takes an edition says is wrong, and whether any other result is not a zero value. Their other arguments are wrong, too.
func editionErrors(d api.Edition, book int, l []api.Change) (list []api.Errno, left bool) {
	slab, e1 := Find(d, book, -1)
	pairs, e2 := Concord(d, book, book)
	next, at, e3 := Apply(d, l)
	more, e4 := Renumber(d)
	text, e5 := Write(d)
	left = slab != 0 || pairs != nil || !reflect.DeepEqual(next, api.Edition{}) || at != 0 || !reflect.DeepEqual(more, api.Edition{}) || text != ""
	return []api.Errno{CheckAll(d), e1, e2, e3, e4, e5}, left
}

// checkEdition tests that an edition has that error, by CheckAll and by all functions that return its error.
func checkEdition(t *testing.T, name string, d api.Edition, want api.Errno) {
	t.Helper()
	if e := CheckAll(d); e != want {
		t.Error(name, e, want)
	}
	if want == api.OK {
		return
	}
	for _, l := range [][]api.Change{nil, make([]api.Change, 1), make([]api.Change, 7)} {
		for _, book := range []int{0, -1, 3} {
			if errors, left := editionErrors(d, book, l); left || slices.Min(errors) != want || slices.Max(errors) != want {
				t.Error(name, errors, left)
			}
		}
	}
}

func TestCheckAllP9_3(t *testing.T) {
	many := func(slabs int) []api.Slab {
		var list []api.Slab
		for i := range slabs {
			list = append(list, slab([]int{i + 1}, "A"))
		}
		return list
	}
	for name, c := range map[string]struct {
		d    api.Edition
		want api.Errno
	}{
		"Z":                           {example(), api.OK},
		"nothing":                     {api.Edition{}, api.ErrFew},
		"one book":                    {api.Edition{Books: 1}, api.OK},
		"three books":                 {api.Edition{Books: 3}, api.OK},
		"four books":                  {api.Edition{Books: 4}, api.ErrMany},
		"fewer than no books":         {api.Edition{Books: -1}, api.ErrFew},
		"the fewest books":            {api.Edition{Books: math.MinInt}, api.ErrFew},
		"the most books":              {api.Edition{Books: math.MaxInt}, api.ErrMany},
		"an empty list of slabs":      {api.Edition{Books: 2, Slabs: []api.Slab{}}, api.OK},
		"five slabs":                  {api.Edition{Books: 1, Slabs: many(5)}, api.OK},
		"six slabs":                   {api.Edition{Books: 1, Slabs: many(6)}, api.ErrMany},
		"few books before slabs":      {api.Edition{Slabs: many(6)}, api.ErrFew},
		"many books before slabs":     {api.Edition{Books: 4, Slabs: []api.Slab{{}}}, api.ErrMany},
		"many slabs before a slab":    {api.Edition{Books: 1, Slabs: make([]api.Slab, 6)}, api.ErrMany},
		"a slab before the next":      {api.Edition{Books: 1, Slabs: []api.Slab{slab([]int{1}), {}}}, api.ErrFew},
		"the numbers of the next one": {api.Edition{Books: 1, Slabs: []api.Slab{slab([]int{1}, "A"), slab([]int{1000}), slab(nil)}}, api.ErrBounds},
		"an error of the last slab":   {api.Edition{Books: 1, Slabs: append(many(4), slab([]int{9}, "A", "["))}, api.ErrShape},
		"slabs of one number":         {api.Edition{Books: 1, Slabs: append(many(4), slab([]int{1}, "A"))}, api.ErrTwice},
	} {
		checkEdition(t, name, c.d, c.want)
	}
}

func TestSlabErrorsP9_3(t *testing.T) {
	for name, c := range map[string]struct {
		slab api.Slab
		want api.Errno
	}{
		"both numbers":             {slab([]int{6, 3}, "A"), api.OK},
		"numbers of other books":   {slab([]int{1, 5}, "A"), api.OK},
		"the greatest number":      {slab([]int{999, 999}, "A"), api.OK},
		"in the first book alone":  {slab([]int{6, 0}, "A"), api.OK},
		"in the second one alone":  {slab([]int{0, 3}, "A"), api.OK},
		"no number":                {slab(nil, "A"), api.ErrShape},
		"one number":               {slab([]int{6}, "A"), api.ErrShape},
		"three numbers":            {slab([]int{6, 3, 7}, "A"), api.ErrShape},
		"many numbers":             {slab(make([]int, 9999), "A"), api.ErrShape},
		"below 0":                  {slab([]int{-1, 3}, "A"), api.ErrBounds},
		"below 0 in the second":    {slab([]int{6, -1}, "A"), api.ErrBounds},
		"above 999":                {slab([]int{1000, 3}, "A"), api.ErrBounds},
		"above 999 in the second":  {slab([]int{0, 1000}, "A"), api.ErrBounds},
		"the greatest integer":     {slab([]int{math.MaxInt, 0}, "A"), api.ErrBounds},
		"the least integer":        {slab([]int{0, math.MinInt}, "A"), api.ErrBounds},
		"in no book":               {slab([]int{0, 0}, "A"), api.ErrNone},
		"twice in the first book":  {slab([]int{5, 3}, "A"), api.ErrTwice},
		"twice in the second one":  {slab([]int{6, 1}, "A"), api.ErrTwice},
		"twice in both":            {slab([]int{5, 1}, "A"), api.ErrTwice},
		"twice, behind 0":          {slab([]int{0, 2}, "A"), api.ErrTwice},
		"shape before bounds":      {slab([]int{-1}, "A"), api.ErrShape},
		"bounds before twice":      {slab([]int{5, 1000}, "A"), api.ErrBounds},
		"bounds before lines":      {slab([]int{6, 1000}), api.ErrBounds},
		"none before lines":        {slab([]int{0, 0}), api.ErrNone},
		"twice before lines":       {slab([]int{5, 3}), api.ErrTwice},
		"shape before lines":       {slab(nil), api.ErrShape},
		"no line":                  {slab([]int{6, 3}), api.ErrFew},
		"an empty list of lines":   {slab([]int{6, 3}, []string{}...), api.ErrFew},
		"four lines":               {slab([]int{6, 3}, "A", "B", textT, "A"), api.OK},
		"five lines":               {slab([]int{6, 3}, "A", "B", "C", "D", "E"), api.ErrMany},
		"many before a line":       {slab([]int{6, 3}, "", "", "", "", ""), api.ErrMany},
		"an empty line":            {slab([]int{6, 3}, ""), api.ErrShape},
		"the last of four lines":   {slab([]int{6, 3}, "A", "A", "A", "[A][B]"), api.ErrShape},
		"a line of 24 signs":       {slab([]int{6, 3}, strings.Repeat("A", 24)), api.OK},
		"a line of 25 signs":       {slab([]int{6, 3}, strings.Repeat("A", 25)), api.ErrShape},
		"a line of 121 bytes":      {slab([]int{6, 3}, strings.Repeat("A", 121)), api.ErrShape},
		"a line of many bytes":     {slab([]int{6, 3}, "A", strings.Repeat("A", 100000)), api.ErrShape},
		"a line with a line feed":  {slab([]int{6, 3}, "A\n"), api.ErrShape},
		"a line with needless ][":  {slab([]int{6, 3}, "[A][B]"), api.ErrShape},
		"a line with two gaps":     {slab([]int{6, 3}, "[---][---]"), api.ErrShape},
		"a line that ends blank":   {slab([]int{6, 3}, "A "), api.ErrShape},
		"a line of an Ä":           {slab([]int{6, 3}, "Ä"), api.ErrShape},
		"the same line many times": {slab([]int{6, 3}, "A", "A", "A", "A"), api.OK},
	} {
		checkEdition(t, name, with(func(d *api.Edition) { d.Slabs = append(d.Slabs, c.slab) }), c.want)
	}
	one := with(func(d *api.Edition) { d.Slabs[0].Numbers = []int{2, 2} })
	checkEdition(t, "a number in two books, twice in one", one, api.ErrTwice)
	one.Slabs[1].Numbers = []int{3, 3}
	checkEdition(t, "a number in two books", one, api.OK)
}

// wide is an edition of three books, with slabs that are in some of them.
func wide() api.Edition {
	return api.Edition{Books: 3, Slabs: []api.Slab{slab([]int{9, 1, 0}, "A"), slab([]int{2, 3, 7}, "B"), slab([]int{0, 2, 4}, "C"), slab([]int{999, 999, 999}, "D"), slab([]int{0, 0, 1}, "E")}}
}

func TestFindP9_3(t *testing.T) {
	for i, c := range []struct {
		d                  api.Edition
		book, number, want int
		e                  api.Errno
	}{
		{example(), 0, 5, 0, api.OK}, {example(), 1, 1, 0, api.OK}, {example(), 1, 2, 1, api.OK}, {example(), 0, 2, 0, api.ErrNone}, {example(), 2, 1, 0, api.ErrAbsent},
		{example(), 0, 1, 0, api.ErrNone}, {example(), 1, 5, 0, api.ErrNone}, {example(), 0, 999, 0, api.ErrNone},
		{example(), 0, 0, 0, api.ErrBounds}, {example(), 1, 0, 0, api.ErrBounds}, {example(), 0, -1, 0, api.ErrBounds}, {example(), 0, 1000, 0, api.ErrBounds}, {example(), 0, math.MinInt, 0, api.ErrBounds}, {example(), 0, math.MaxInt, 0, api.ErrBounds},
		{example(), -1, 1, 0, api.ErrAbsent}, {example(), -1, 0, 0, api.ErrAbsent}, {example(), 2, 1000, 0, api.ErrAbsent}, {example(), math.MaxInt, 5, 0, api.ErrAbsent}, {example(), math.MinInt, 5, 0, api.ErrAbsent},
		{wide(), 2, 7, 1, api.OK}, {wide(), 2, 4, 2, api.OK}, {wide(), 2, 1, 4, api.OK}, {wide(), 1, 1, 0, api.OK}, {wide(), 0, 1, 0, api.ErrNone}, {wide(), 3, 1, 0, api.ErrAbsent},
		{wide(), 0, 999, 3, api.OK}, {wide(), 1, 999, 3, api.OK}, {wide(), 2, 999, 3, api.OK}, {wide(), 2, 998, 0, api.ErrNone},
		{api.Edition{Books: 1}, 0, 1, 0, api.ErrNone}, {api.Edition{Books: 1}, 1, 1, 0, api.ErrAbsent}, {api.Edition{Books: 1}, 0, 0, 0, api.ErrBounds},
	} {
		if n, e := Find(c.d, c.book, c.number); n != c.want || e != c.e {
			t.Error(i, n, e)
		}
	}
}

func TestConcordP9_3(t *testing.T) {
	for i, c := range []struct {
		d    api.Edition
		a, b int
		want [][]int
		e    api.Errno
	}{
		{example(), 0, 1, [][]int{{5, 1}}, api.OK}, {example(), 1, 0, [][]int{{1, 5}}, api.OK}, {example(), 0, 0, [][]int{{5, 5}}, api.OK}, {example(), 1, 1, [][]int{{1, 1}, {2, 2}}, api.OK},
		{example(), 2, 0, nil, api.ErrAbsent}, {example(), 0, 2, nil, api.ErrAbsent}, {example(), -1, 0, nil, api.ErrAbsent}, {example(), 0, -1, nil, api.ErrAbsent}, {example(), math.MinInt, math.MaxInt, nil, api.ErrAbsent},
		{wide(), 0, 1, [][]int{{2, 3}, {9, 1}, {999, 999}}, api.OK}, {wide(), 1, 0, [][]int{{1, 9}, {3, 2}, {999, 999}}, api.OK}, {wide(), 1, 2, [][]int{{2, 4}, {3, 7}, {999, 999}}, api.OK}, {wide(), 0, 2, [][]int{{2, 7}, {999, 999}}, api.OK}, {wide(), 2, 2, [][]int{{1, 1}, {4, 4}, {7, 7}, {999, 999}}, api.OK},
		{api.Edition{Books: 2}, 0, 1, nil, api.OK}, {api.Edition{Books: 2, Slabs: []api.Slab{slab([]int{1, 0}, "A"), slab([]int{0, 1}, "A")}}, 0, 1, nil, api.OK},
		{api.Edition{Books: 2, Slabs: []api.Slab{slab([]int{10, 1}, "A"), slab([]int{9, 2}, "A"), slab([]int{100, 3}, "A")}}, 0, 1, [][]int{{9, 2}, {10, 1}, {100, 3}}, api.OK},
	} {
		if l, e := Concord(c.d, c.a, c.b); e != c.e || !slices.EqualFunc(l, c.want, slices.Equal[[]int]) {
			t.Error(i, l, e)
		}
	}
}

func TestApplyP9_4(t *testing.T) {
	for name, x := range map[string]struct {
		want string
		l    []api.Change
	}{
		"nothing":                           {"ARMA", nil},
		"an empty list":                     {"ARMA", []api.Change{}},
		"one is replaced":                   {"A[R]MA", []api.Change{c(0, 1, 2, "[R]")}},
		"the first one is replaced":         {"(E)RMA", []api.Change{c(0, 0, 1, "(E)")}},
		"the last one is replaced":          {"ARME'", []api.Change{c(0, 3, 4, "E'")}},
		"all are replaced":                  {"_", []api.Change{c(0, 0, 4, "_")}},
		"one by many":                       {"A" + strings.Repeat("X", 21) + "MA", []api.Change{c(0, 1, 2, strings.Repeat("X", 21))}},
		"many by one":                       {"AXA", []api.Change{c(0, 1, 3, "X")}},
		"one is taken out":                  {"AMA", []api.Change{c(0, 1, 2, "")}},
		"the first one is taken out":        {"RMA", []api.Change{c(0, 0, 1, "")}},
		"the last one is taken out":         {"ARM", []api.Change{c(0, 3, 4, "")}},
		"all but one are taken out":         {"A", []api.Change{c(0, 0, 3, "")}},
		"one is put in":                     {"ARXMA", []api.Change{c(0, 2, 2, "X")}},
		"one is put in first":               {"[---]ARMA", []api.Change{c(0, 0, 0, "[---]")}},
		"one is put in last":                {"ARMA_", []api.Change{c(0, 4, 4, "_")}},
		"a word is put in":                  {"ARA BMA", []api.Change{c(0, 2, 2, "A B")}},
		"both ends":                         {"RMA<V>", []api.Change{c(0, 0, 1, ""), c(0, 4, 4, "<V>")}},
		"both ends, the last one first":     {"RMA<V>", []api.Change{c(0, 4, 4, "<V>"), c(0, 0, 1, "")}},
		"put in right ahead":                {"AYXA", []api.Change{c(0, 1, 3, "X"), c(0, 1, 1, "Y")}},
		"put in right ahead, first":         {"AYXA", []api.Change{c(0, 1, 1, "Y"), c(0, 1, 3, "X")}},
		"put in right behind":               {"AXYA", []api.Change{c(0, 1, 3, "X"), c(0, 3, 3, "Y")}},
		"put in right behind, first":        {"AXYA", []api.Change{c(0, 3, 3, "Y"), c(0, 1, 3, "X")}},
		"put in between two":                {"XZYA", []api.Change{c(0, 2, 3, "Y"), c(0, 2, 2, "Z"), c(0, 0, 2, "X")}},
		"put in between two, last":          {"XZYA", []api.Change{c(0, 0, 2, "X"), c(0, 2, 3, "Y"), c(0, 2, 2, "Z")}},
		"put in between two, first":         {"XZYA", []api.Change{c(0, 2, 2, "Z"), c(0, 0, 2, "X"), c(0, 2, 3, "Y")}},
		"put in where one is taken out":     {"AYMA", []api.Change{c(0, 1, 1, "Y"), c(0, 1, 2, "")}},
		"put in behind one taken out":       {"AYMA", []api.Change{c(0, 2, 2, "Y"), c(0, 1, 2, "")}},
		"one after the other":               {"XY", []api.Change{c(0, 0, 2, "X"), c(0, 2, 4, "Y")}},
		"one after the other, turned":       {"XY", []api.Change{c(0, 2, 4, "Y"), c(0, 0, 2, "X")}},
		"taken out, one after the other":    {"RA", []api.Change{c(0, 0, 1, ""), c(0, 2, 3, "")}},
		"two with longer ones":              {"BBBRCCCCCA", []api.Change{c(0, 0, 1, "BBB"), c(0, 2, 3, "CCCCC")}},
		"brackets that join":                {"A[RA]", []api.Change{c(0, 1, 3, "[R]"), c(0, 3, 4, "[A]")}},
		"brackets that join what was there": {"A[REMA]", []api.Change{c(0, 1, 2, "[R]"), c(0, 2, 2, "[E]"), c(0, 2, 3, "[M]"), c(0, 3, 4, "[A]")}},
		"six changes":                       {"BACRDMEAZ", []api.Change{c(0, 4, 4, "Z"), c(0, 0, 0, "B"), c(0, 1, 1, "C"), c(0, 3, 3, "E"), c(0, 2, 2, "D"), c(1, 0, 1, "A")}},
		"six places, close together":        {"BXCYDZA", []api.Change{c(0, 0, 0, "B"), c(0, 0, 1, "X"), c(0, 1, 1, "C"), c(0, 1, 2, "Y"), c(0, 2, 2, "D"), c(0, 2, 3, "Z")}},
		"by the other book":                 {"E'RMA", []api.Change{{Book: 1, Number: 1, Until: 1, Text: "E'"}}},
		"by both books":                     {"E'RMI", []api.Change{{Book: 1, Number: 1, Until: 1, Text: "E'"}, c(0, 3, 4, "I")}},
		"24 signs":                          {strings.Repeat("A", 20) + "ARMA", []api.Change{c(0, 0, 0, strings.Repeat("A", 20))}},
		"not valid before the other one":    {"ARMA" + strings.Repeat("B", 19), []api.Change{c(0, 4, 4, strings.Repeat("B", 19)), c(1, 0, 1, "A")}},
		"many, and few of those that were":  {strings.Repeat("B", 24), []api.Change{c(0, 0, 2, strings.Repeat("B", 24)), c(0, 2, 4, "")}},
		"the same signs":                    {"ARMA", []api.Change{c(0, 0, 4, "ARMA")}},
		"an empty line, but for another":    {"X", []api.Change{c(0, 0, 4, ""), c(0, 4, 4, "X")}},
		"an empty line, but for one ahead":  {"X", []api.Change{c(0, 0, 4, ""), c(0, 0, 0, "X")}},
	} {
		d, at, e := Apply(example(), x.l)
		if whole := with(func(d *api.Edition) { d.Slabs[0].Lines[0] = x.want }); at != 0 || e != api.OK || !reflect.DeepEqual(d, whole) {
			t.Error(name, d, at, e)
		}
	}
}

// TestLineP9_4 has changes of the line T.
func TestLineP9_4(t *testing.T) {
	for i, x := range []struct {
		want string
		l    []api.Change
	}{
		{"AR'MQ(VE) {A}B<C>#D#", []api.Change{c(1, 2, 7, "M"), c(1, 15, 17, "")}},
		{"AR'[MA] Q(VE) {A}B<C>#D#_[---]", []api.Change{c(1, 5, 7, "")}},
		{"AR'[MA..]Q(VE) {A}B<C>#D#_[---]", []api.Change{c(1, 4, 5, "")}},
		{"AR'[MA ..]Q(VE A)B<C>#D#_[---]", []api.Change{c(1, 11, 12, "(A)")}},
		{"AR'[MA ..]Q(VE) #A#B<C>#D#_[---]", []api.Change{c(1, 11, 12, "#A#")}},
		{"AR'[MA M] AA[.]Q(VE) {A}B<C>#D#_[---]", []api.Change{c(1, 5, 5, "[M] A"), c(1, 5, 6, "A")}},
		{"AR'[MA] M [..]Q(VE) {A}B<C>#D#_[---]", []api.Change{c(1, 4, 4, "[A] M"), c(1, 3, 4, "")}},
		{"[---]AR'[MA ..]Q(VE) {A}B<C>#D#_[---]", []api.Change{c(1, 0, 0, "[---]")}},
		{"AR'[MA ..]Q(VE) {A}B<C>#D#_[---]_", []api.Change{c(1, 17, 17, "_")}},
		{"AR'[MA ..]Q(VE) {A}B<C>#DE#[---]", []api.Change{c(1, 15, 16, "#E#")}},
	} {
		d, at, e := Apply(example(), x.l)
		if whole := with(func(d *api.Edition) { d.Slabs[0].Lines[1] = x.want }); at != 0 || e != api.OK || !reflect.DeepEqual(d, whole) {
			t.Error(i, d, at, e)
		}
	}
}

// named is a change of the slab with that number in a book, at the beginning of its line.
func named(book, number, line int) api.Change {
	return api.Change{Book: book, Number: number, Line: line, Text: "A"}
}

func TestApplyErrorsP9_4(t *testing.T) {
	good := c(0, 0, 1, "X")
	for name, x := range map[string]struct {
		at int
		e  api.Errno
		l  []api.Change
	}{
		"six changes":                     {0, api.ErrAbsent, slices.Repeat([]api.Change{named(9, 9, 9)}, 6)},
		"seven changes":                   {0, api.ErrMany, slices.Repeat([]api.Change{good}, 7)},
		"many before an error":            {0, api.ErrMany, slices.Repeat([]api.Change{named(9, 9, 9)}, 7)},
		"a book that is none":             {0, api.ErrAbsent, []api.Change{named(2, 5, 0)}},
		"a book below 0":                  {0, api.ErrAbsent, []api.Change{named(-1, 5, 0)}},
		"the greatest book":               {0, api.ErrAbsent, []api.Change{named(math.MaxInt, 5, 0)}},
		"a book before a number":          {0, api.ErrAbsent, []api.Change{named(2, 0, 9)}},
		"a number of the other book":      {0, api.ErrNone, []api.Change{named(0, 1, 0)}},
		"the number 0":                    {0, api.ErrNone, []api.Change{named(0, 0, 0)}},
		"a number below 0":                {0, api.ErrNone, []api.Change{named(0, -1, 0)}},
		"the number 1000":                 {0, api.ErrNone, []api.Change{named(0, 1000, 0)}},
		"the least number":                {0, api.ErrNone, []api.Change{named(0, math.MinInt, 0)}},
		"a number before a line":          {0, api.ErrNone, []api.Change{named(0, 2, 9)}},
		"the last line":                   {0, api.OK, []api.Change{named(0, 5, 1)}},
		"a line that is none":             {0, api.ErrAbsent, []api.Change{named(0, 5, 2)}},
		"a line below 0":                  {0, api.ErrAbsent, []api.Change{named(0, 5, -1)}},
		"a line of another slab":          {0, api.ErrAbsent, []api.Change{named(1, 2, 1)}},
		"the greatest line":               {0, api.ErrAbsent, []api.Change{named(0, 5, math.MaxInt)}},
		"a line before bounds":            {0, api.ErrAbsent, []api.Change{c(2, -1, 9, "")}},
		"From below 0":                    {0, api.ErrBounds, []api.Change{c(0, -1, 0, "A")}},
		"both below 0":                    {0, api.ErrBounds, []api.Change{c(0, -1, -1, "A")}},
		"From behind Until":               {0, api.ErrBounds, []api.Change{c(0, 2, 1, "A")}},
		"Until behind the line":           {0, api.ErrBounds, []api.Change{c(0, 0, 5, "A")}},
		"Until at the end":                {0, api.OK, []api.Change{c(0, 0, 4, "A")}},
		"both behind the line":            {0, api.ErrBounds, []api.Change{c(0, 5, 5, "A")}},
		"Until behind the line T":         {0, api.ErrBounds, []api.Change{c(1, 17, 18, "A")}},
		"Until at the end of T":           {0, api.OK, []api.Change{c(1, 16, 17, "A")}},
		"the greatest Until":              {0, api.ErrBounds, []api.Change{c(0, 0, math.MaxInt, "A")}},
		"the least From":                  {0, api.ErrBounds, []api.Change{c(0, math.MinInt, 0, "A")}},
		"bounds before the text":          {0, api.ErrBounds, []api.Change{c(0, 0, 5, "[")}},
		"bounds before few":               {0, api.ErrBounds, []api.Change{c(0, 5, 5, "")}},
		"a text that is no line":          {0, api.ErrShape, []api.Change{c(0, 0, 1, "[")}},
		"a text that begins blank":        {0, api.ErrShape, []api.Change{c(0, 0, 1, " A")}},
		"a text of a blank":               {0, api.ErrShape, []api.Change{c(0, 1, 1, " ")}},
		"a text of 25 signs":              {0, api.ErrShape, []api.Change{c(0, 0, 1, strings.Repeat("A", 25))}},
		"a text of 120 bytes":             {0, api.ErrShape, []api.Change{c(0, 0, 1, strings.Repeat("A", 120))}},
		"a text of 121 bytes":             {0, api.ErrLong, []api.Change{c(0, 0, 1, strings.Repeat("A", 121))}},
		"a text that puts in, and is not": {0, api.ErrShape, []api.Change{c(0, 1, 1, "A'']")}},
		"nothing, put in":                 {0, api.ErrFew, []api.Change{c(0, 1, 1, "")}},
		"nothing, put in at the end":      {0, api.ErrFew, []api.Change{c(0, 4, 4, "")}},
		"nothing, put in twice":           {0, api.ErrFew, []api.Change{c(0, 1, 1, ""), c(0, 1, 1, "")}},
		"few before a clash":              {1, api.ErrFew, []api.Change{c(0, 0, 2, "A"), c(0, 1, 1, "")}},
		"a text before a clash":           {1, api.ErrShape, []api.Change{c(0, 0, 2, "A"), c(0, 0, 2, "]")}},
		"an error of the second change":   {1, api.ErrShape, []api.Change{c(0, 0, 1, ""), c(0, 4, 4, "< V>")}},
		"a change before the next":        {0, api.ErrFew, []api.Change{c(0, 1, 1, ""), named(9, 9, 9)}},
		"a clash before the next":         {1, api.ErrClash, []api.Change{good, good, named(9, 9, 9)}},
		"an error before a clash":         {1, api.ErrAbsent, []api.Change{good, named(9, 9, 9), good}},
		"an error before a line's error":  {1, api.ErrBounds, []api.Change{c(0, 0, 4, ""), c(0, 0, 5, "A")}},
		"the last of six":                 {5, api.ErrNone, append(slices.Clone(five), named(0, 6, 0))},
		"bounds of the line as it was":    {1, api.ErrBounds, []api.Change{c(0, 4, 4, "XYZ"), c(0, 5, 6, "A")}},
		"bounds, whatever is taken out":   {0, api.OK, []api.Change{c(0, 0, 3, ""), c(0, 3, 4, "A")}},
	} {
		d, at, e := Apply(example(), x.l)
		if at != x.at || e != x.e || (e != api.OK) != reflect.DeepEqual(d, api.Edition{}) {
			t.Error(name, d, at, e)
		}
	}
}

// five are changes that may be made together.
var five = []api.Change{c(0, 0, 0, "A"), c(0, 1, 1, "A"), c(0, 2, 2, "A"), c(0, 3, 3, "A"), c(0, 4, 4, "A")}

// TestClashesP9_4 has two changes, in both orders.
func TestClashesP9_4(t *testing.T) {
	other := func(line, from, until int, text string) api.Change {
		return api.Change{Book: 1, Number: 1, Line: line, From: from, Until: until, Text: text}
	}
	for name, x := range map[string]struct {
		e    api.Errno
		a, b api.Change
	}{
		"the same signs":                {api.ErrClash, c(0, 1, 2, "X"), c(0, 1, 2, "X")},
		"one sign in common":            {api.ErrClash, c(0, 0, 2, "X"), c(0, 1, 3, "Y")},
		"one within the other":          {api.ErrClash, c(0, 0, 4, "X"), c(0, 1, 2, "Y")},
		"from the same sign on":         {api.ErrClash, c(0, 1, 4, "X"), c(0, 1, 2, "Y")},
		"up to the same sign":           {api.ErrClash, c(0, 1, 4, "X"), c(0, 3, 4, "Y")},
		"both take out":                 {api.ErrClash, c(0, 1, 2, ""), c(0, 1, 2, "")},
		"one takes out":                 {api.ErrClash, c(0, 1, 3, ""), c(0, 2, 3, "X")},
		"next to each other":            {api.OK, c(0, 0, 2, "X"), c(0, 2, 4, "Y")},
		"far from each other":           {api.OK, c(0, 0, 1, "X"), c(0, 3, 4, "Y")},
		"both put in at one place":      {api.ErrClash, c(0, 2, 2, "Y"), c(0, 2, 2, "Y")},
		"both put in first":             {api.ErrClash, c(0, 0, 0, "X"), c(0, 0, 0, "Y")},
		"both put in last":              {api.ErrClash, c(0, 4, 4, "X"), c(0, 4, 4, "Y")},
		"both put in, a sign between":   {api.OK, c(0, 2, 2, "X"), c(0, 3, 3, "Y")},
		"put in between":                {api.ErrClash, c(0, 1, 3, "X"), c(0, 2, 2, "Y")},
		"put in behind the first sign":  {api.ErrClash, c(0, 0, 4, "X"), c(0, 1, 1, "Y")},
		"put in ahead of the last sign": {api.ErrClash, c(0, 0, 4, "X"), c(0, 3, 3, "Y")},
		"put in between, taken out":     {api.ErrClash, c(0, 1, 3, ""), c(0, 2, 2, "Y")},
		"put in at From":                {api.OK, c(0, 1, 3, "X"), c(0, 1, 1, "Y")},
		"put in at Until":               {api.OK, c(0, 1, 3, "X"), c(0, 3, 3, "Y")},
		"put in ahead of From":          {api.OK, c(0, 1, 3, "X"), c(0, 0, 0, "Y")},
		"put in behind Until":           {api.OK, c(0, 1, 3, "X"), c(0, 4, 4, "Y")},
		"put in at From of one sign":    {api.OK, c(0, 1, 2, "X"), c(0, 1, 1, "Y")},
		"put in at Until of one sign":   {api.OK, c(0, 1, 2, "X"), c(0, 2, 2, "Y")},
		"of different lines":            {api.OK, c(0, 1, 2, "X"), c(1, 1, 2, "X")},
		"put in in different lines":     {api.OK, c(0, 1, 1, "X"), c(1, 1, 1, "X")},
		"of different slabs":            {api.OK, c(0, 1, 2, "X"), api.Change{Book: 1, Number: 2, From: 1, Until: 2, Text: "X"}},
		"of one slab, by two books":     {api.ErrClash, c(0, 1, 2, "X"), other(0, 1, 2, "X")},
		"put in by two books":           {api.ErrClash, c(1, 1, 1, "X"), other(1, 1, 1, "X")},
		"put in between, by two books":  {api.ErrClash, c(1, 1, 3, "X"), other(1, 2, 2, "X")},
		"lines by two books":            {api.OK, c(0, 1, 3, "X"), other(1, 2, 2, "X")},
	} {
		want := 0
		if x.e != api.OK {
			want = 1
		}
		for _, l := range [][]api.Change{{x.a, x.b}, {x.b, x.a}} {
			d, at, e := Apply(example(), l)
			if at != want || e != x.e || (e != api.OK) != reflect.DeepEqual(d, api.Edition{}) {
				t.Error(name, d, at, e)
			}
		}
		apart := []api.Change{x.a, c(0, 3, 3, "Z"), x.b}
		if _, at, e := Apply(example(), apart); x.e != api.OK && (at < 1 || e != api.ErrClash) {
			t.Error(name, at, e)
		}
	}
}

// TestAfterP9_4 has lines that are not valid after all of their changes.
func TestAfterP9_4(t *testing.T) {
	other := api.Change{Book: 1, Number: 2, Until: 4}
	for name, x := range map[string]struct {
		at int
		e  api.Errno
		l  []api.Change
	}{
		"all taken out":                       {0, api.ErrFew, []api.Change{c(0, 0, 4, "")}},
		"all taken out, one by one":           {0, api.ErrFew, []api.Change{c(0, 2, 4, ""), c(0, 0, 2, "")}},
		"25 signs":                            {0, api.ErrMany, []api.Change{c(0, 4, 4, strings.Repeat("A", 21))}},
		"24 signs, and one more":              {0, api.ErrMany, []api.Change{c(0, 0, 4, strings.Repeat("A", 24)), c(0, 0, 0, "A")}},
		"25 signs of T":                       {1, api.ErrMany, []api.Change{c(0, 0, 4, strings.Repeat("A", 24)), c(1, 0, 0, strings.Repeat("B", 8))}},
		"a blank at the end":                  {0, api.ErrSequence, []api.Change{c(1, 5, 17, "")}},
		"a blank at the beginning":            {0, api.ErrSequence, []api.Change{c(1, 0, 4, "")}},
		"two blanks":                          {0, api.ErrSequence, []api.Change{c(1, 5, 10, "")}},
		"two gaps":                            {0, api.ErrTwice, []api.Change{c(1, 16, 16, "[---]")}},
		"two gaps, both new":                  {0, api.ErrTwice, []api.Change{c(0, 1, 1, "[---]"), c(0, 1, 2, "[---]")}},
		"two gaps, both new, turned":          {0, api.ErrTwice, []api.Change{c(0, 1, 2, "[---]"), c(0, 1, 1, "[---]")}},
		"the second change is that of a line": {1, api.ErrFew, []api.Change{c(1, 0, 1, "Z"), c(0, 0, 4, "")}},
		"the first change of the line":        {1, api.ErrFew, []api.Change{c(1, 0, 1, "Z"), c(0, 2, 4, ""), c(1, 16, 17, "_"), c(0, 0, 2, "")}},
		"the first slab first":                {1, api.ErrFew, []api.Change{other, c(0, 0, 4, "")}},
		"the first line first":                {1, api.ErrFew, []api.Change{c(1, 0, 4, ""), c(0, 0, 4, "")}},
		"the first line first, turned":        {0, api.ErrFew, []api.Change{c(0, 0, 4, ""), c(1, 0, 4, "")}},
		"the second line alone":               {1, api.ErrSequence, []api.Change{c(0, 0, 2, ""), c(1, 0, 4, "")}},
		"the second slab alone":               {2, api.ErrFew, []api.Change{c(0, 0, 2, ""), c(1, 0, 2, ""), other}},
		"the line's own order of errors":      {0, api.ErrSequence, []api.Change{c(1, 16, 16, "[---]"), c(1, 0, 4, "")}},
		"by two books":                        {0, api.ErrFew, []api.Change{{Book: 1, Number: 1, From: 2, Until: 4}, c(0, 0, 2, "")}},
	} {
		if d, at, e := Apply(example(), x.l); at != x.at || e != x.e || !reflect.DeepEqual(d, api.Edition{}) {
			t.Error(name, d, at, e)
		}
	}
}

func TestRenumberP9_5(t *testing.T) {
	d, e := Renumber(example())
	if want := (api.Edition{Books: 3, Slabs: []api.Slab{slab([]int{5, 1, 1}, "ARMA", textT), slab([]int{0, 2, 2}, "CANO")}}); e != api.OK || !reflect.DeepEqual(d, want) {
		t.Error(d, e)
	}
	if d, e = Renumber(d); e != api.ErrMany || !reflect.DeepEqual(d, api.Edition{}) {
		t.Error(d, e)
	}
	if d, e := Renumber(api.Edition{Books: 1}); e != api.OK || d.Books != 2 || len(d.Slabs) != 0 {
		t.Error(d, e)
	}
	if d, e := Renumber(api.Edition{Books: 3}); e != api.ErrMany || d.Books != 0 {
		t.Error(d, e)
	}
	all := api.Edition{Books: 1}
	for i := range 5 {
		all.Slabs = append(all.Slabs, slab([]int{999 - i}, "A", "B"))
	}
	d, e = Renumber(all)
	for i, s := range d.Slabs {
		if !slices.Equal(s.Numbers, []int{999 - i, i + 1}) || !slices.Equal(s.Lines, []string{"A", "B"}) {
			t.Error(i, s)
		}
	}
	if e != api.OK || d.Books != 2 || len(d.Slabs) != 5 {
		t.Error(d, e)
	}
}

// wild are numbers far outside all limits, and some within.
func wild(i int) int {
	list := []int{0, 1, 2, 3, 4, 5, -1, -2, 9, 24, 25, 999, 1000, math.MinInt, math.MinInt + 5, math.MaxInt, math.MaxInt - 5}
	return list[(i%len(list)+len(list))%len(list)]
}

// tame is a wild number now and then, and otherwise one within the limits.
func tame(i, low, high int) int {
	if i%97 == 0 {
		return wild(i / 97)
	}
	return low + (i%(high-low+1)+high-low+1)%(high-low+1)
}

// anyText returns a text that is a printed line, or only nearly one.
func anyText(i int) string {
	texts := []string{"A", textT, "ARMA", "A B", "[A]", "A'", "_", "", "[", "[A][B]", "A ", "#A", "Ä", "A\n", "\xff", strings.Repeat("A", 24), strings.Repeat("A", 25), strings.Repeat("[---][A]", 12), strings.Repeat("A", 121)}
	if i%13 == 0 {
		return texts[i/13%len(texts)]
	}
	return texts[i%6]
}

// anyEdition returns an edition most of which is within the limits.
func anyEdition(i int) api.Edition {
	d := api.Edition{Books: tame(i*7, 1, 3)}
	for k := range i % 7 {
		var s api.Slab
		for book := range tame(i*11+k, max(0, min(d.Books, 3)), max(0, min(d.Books, 3))) % 10 {
			s.Numbers = append(s.Numbers, tame(i*13+k*5+book, k*5, k*5+4))
		}
		for j := range 1 + i/5%5 {
			s.Lines = append(s.Lines, anyText(i*17+k*3+j))
		}
		d.Slabs = append(d.Slabs, s)
	}
	return d
}

func TestAnyEditionsP1(t *testing.T) {
	valid, made := 0, 0
	for i := range 40000 {
		d := anyEdition(i)
		var l []api.Change
		for k := range i / 3 % 9 {
			n := i*19 + k*7
			l = append(l, api.Change{Book: tame(n, 0, 2), Number: tame(n/2, 0, 9), Line: tame(n/3, 0, 1), From: tame(n/5, 0, 2), Until: tame(n/7, 2, 4), Text: anyText(n / 11)})
		}
		errors, left := editionErrors(d, wild(i/3), l)
		if errors[0] != api.OK && (left || slices.Min(errors) != errors[0] || slices.Max(errors) != errors[0]) {
			t.Fatal(i, d, l, errors)
		}
		if errors[0] == api.OK {
			valid++
			if errors[3] == api.OK && len(l) > 0 {
				made++
			}
		}
	}
	if valid < 5000 || made < 50 {
		t.Error("too few are valid:", valid, made)
	}
}

func TestAnyLinesP1(t *testing.T) {
	valid := 0
	for i := range 40000 {
		var l []api.Sign
		for k := range i % 27 {
			n := i*11 + k*k*7
			l = append(l, api.Sign{Kind: tame(n, 1, 10), Letter: []byte{'A', 'Z', 0, 'A', '.'}[(n/3+k)%5]})
		}
		if i%3 == 0 {
			l = slices.DeleteFunc(l, func(s api.Sign) bool { return plainCheck([]api.Sign{s}) != api.OK })
		}
		errors, left := lineErrors(l)
		if slices.Min(errors) != slices.Max(errors) || errors[0] != plainCheck(l) || errors[0] != api.OK && left {
			t.Fatal(i, l, errors)
		}
		if errors[0] == api.OK {
			valid++
		}
	}
	if valid < 5000 {
		t.Error("too few are valid:", valid)
	}
}

func TestAnyTextsP1(t *testing.T) {
	bytes := []byte("bokslaend:0123 9\n[]-A'\xff\x00")
	text, _ := Write(example())
	for i := range 30000 {
		edition := []byte(text)
		edition[i*7%len(edition)] = bytes[i%len(bytes)]
		edition[i/7%len(edition)] = bytes[i/5%len(bytes)]
		d, row, e := Read(string(edition[i%3/2:]))
		if e != api.OK && !reflect.DeepEqual(d, api.Edition{}) || row != 0 && e != api.ErrShape || e == api.OK && CheckAll(d) != api.OK {
			t.Fatal(i, string(edition), d, row, e)
		}
	}
}

// TestStoppedP1 stops while places are handed out.
func TestStoppedP1(t *testing.T) {
	for p := range places(of("sA b sB")) {
		if !p.first || p.last || p.behind.Kind != api.SignBlank {
			t.Error(p)
		}
		break
	}
}

// TestFailure tests what an error of a change says, and that it still is the error itself.
func TestFailure(t *testing.T) {
	_, err := changed(example(), []api.Change{c(0, 0, 1, "X"), c(0, 0, 1, "X")})
	if err == nil || !errors.Is(err, api.ErrClash) || errors.Is(err, api.ErrFew) || err.Error() != "change 1: it cannot all be true" {
		t.Error(err)
	}
}

func TestArgumentsStayR4(t *testing.T) {
	line := make([]api.Sign, 0, 40)
	line = append(line, of(lineT)...)
	lineErrors(line)
	if !slices.Equal(line, of(lineT)) || !slices.Equal(line[:40][len(line):], make([]api.Sign, 40-len(line))) {
		t.Error(line)
	}
	d := example()
	for i := range d.Slabs { // there is room behind each list
		d.Slabs[i].Numbers = append(make([]int, 0, 9), d.Slabs[i].Numbers...)
		d.Slabs[i].Lines = append(make([]string, 0, 9), d.Slabs[i].Lines...)
	}
	l := []api.Change{c(0, 4, 4, "Z"), c(0, 0, 1, "XY"), c(1, 3, 9, ""), {Book: 1, Number: 2, Until: 1, Text: "[C]"}}
	changes := slices.Clone(l)
	if errors, _ := editionErrors(d, 0, l); errors[3] != api.OK || errors[4] != api.OK {
		t.Error(errors)
	}
	if !reflect.DeepEqual(d, example()) || !slices.Equal(l, changes) {
		t.Error(d, l)
	}
	for _, s := range d.Slabs {
		if s.Numbers[:9][2] != 0 || s.Lines[:9][2] != "" {
			t.Error(s.Numbers[:9], s.Lines[:9])
		}
	}
}

// TestResultsApartR4 changes results, which must change neither an argument nor another result.
func TestResultsApartR4(t *testing.T) {
	text, _ := Write(example())
	spoil := func(d api.Edition) {
		for i := range d.Slabs {
			_ = append(d.Slabs[i].Lines, "Q")
			clear(d.Slabs[i].Numbers)
			clear(d.Slabs[i].Lines)
		}
		clear(d.Slabs)
	}
	for range 2 {
		d := example()
		same, _, _ := Apply(d, nil)
		next, _, _ := Apply(d, []api.Change{c(0, 0, 1, "X")})
		more, _ := Renumber(d)
		read, _, _ := Read(text)
		for _, result := range []api.Edition{same, next, more, read} {
			spoil(result)
			if !reflect.DeepEqual(d, example()) {
				t.Error(d)
			}
		}
		for _, lists := range [][]api.Slab{example().Slabs, d.Slabs} {
			if lists[0].Lines[0] != "ARMA" {
				t.Error(lists)
			}
		}
	}
	for _, result := range []func() api.Edition{
		func() api.Edition { d, _, _ := Read(text); return d },
		func() api.Edition { d, _, _ := Apply(example(), nil); return d },
	} {
		d := result()
		_ = append(d.Slabs[0].Lines, "Q")
		_ = append(d.Slabs[0].Numbers, 7)
		if !reflect.DeepEqual(d, example()) {
			t.Error(d)
		}
	}
	pairs, _ := Concord(wide(), 0, 1)
	_ = append(pairs[0], 7)
	clear(pairs[2])
	if !slices.Equal(pairs[0], []int{2, 3}) || !slices.Equal(pairs[1], []int{9, 1}) {
		t.Error(pairs)
	}
	if again, _ := Concord(wide(), 0, 1); !slices.Equal(again[2], []int{999, 999}) {
		t.Error(again)
	}
	signs, _ := Signs(textT)
	clear(signs)
	if again, _ := Signs(textT); !slices.Equal(again, of(lineT)) {
		t.Error(again)
	}
}

func TestNilAsEmptyR4(t *testing.T) {
	a, b := api.Edition{Books: 1}, api.Edition{Books: 1, Slabs: []api.Slab{}}
	s, e := Write(a)
	text, f := Write(b)
	if s != text || e != api.OK || f != api.OK {
		t.Error(s, text, e, f)
	}
	for _, l := range [][]api.Change{nil, {}} {
		if d, at, e := Apply(b, l); len(d.Slabs) != 0 || d.Books != 1 || at != 0 || e != api.OK {
			t.Error(d, at, e)
		}
	}
	if d, e := Renumber(b); len(d.Slabs) != 0 || d.Books != 2 || e != api.OK {
		t.Error(d, e)
	}
}
