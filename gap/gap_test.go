package gap

import (
	"math"
	"reflect"
	"slices"
	"strings"
	"testing"

	"cippus/api"
)

// errorsOf returns what each function that takes a lexicon says is wrong, and whether any other result is not a zero value.
func errorsOf(x api.Lexicon, r []api.Cell, from, most int, f api.Filling) (list []api.Errno, left bool) {
	n, e1 := Count(x, r)
	fillings, e2 := List(x, r, from, most)
	e3 := Fits(x, r, f)
	shared, e4 := Shared(x, r)
	cell, e5 := Stuck(x, r)
	text, e6 := Print(x, r, f)
	left = n != 0 || fillings != nil || shared != nil || cell != 0 || text != ""
	return []api.Errno{e1, e2, e3, e4, e5, e6}, left
}

// oneError tests that all functions return the same error, and nothing else, however wrong their other arguments are.
func oneError(t *testing.T, name string, x api.Lexicon, r []api.Cell, want api.Errno) {
	t.Helper()
	errors, left := errorsOf(x, r, -1, 501, filling([]int{-1}))
	if slices.Min(errors) != want || slices.Max(errors) != want || left {
		t.Error(name, errors, left, want)
	}
}

func TestLexiconErrorsP2_1(t *testing.T) {
	word := func(at int, w api.Word) api.Lexicon { return with(func(x *api.Lexicon) { x.Words[at] = w }) }
	width := func(at int, s api.Span) api.Lexicon { return with(func(x *api.Lexicon) { x.Widths[at] = s }) }
	for name, c := range map[string]struct {
		x    api.Lexicon
		want api.Errno
	}{
		"no forms":                      {with(func(x *api.Lexicon) { x.First = nil }), api.ErrFew},
		"six forms":                     {with(func(x *api.Lexicon) { x.First = make([]bool, 6) }), api.ErrMany},
		"Last of one form less":         {with(func(x *api.Lexicon) { x.Last = x.Last[:1] }), api.ErrShape},
		"Last of one form more":         {with(func(x *api.Lexicon) { x.Last = make([]bool, 3) }), api.ErrShape},
		"Next of one form less":         {with(func(x *api.Lexicon) { x.Next = x.Next[:1] }), api.ErrShape},
		"Next of one form more":         {with(func(x *api.Lexicon) { x.Next = append(x.Next, []bool{true, true}) }), api.ErrShape},
		"Next has too few elements":     {with(func(x *api.Lexicon) { x.Next[1] = []bool{true} }), api.ErrShape},
		"Next has too many elements":    {with(func(x *api.Lexicon) { x.Next[0] = make([]bool, 3) }), api.ErrShape},
		"no words":                      {with(func(x *api.Lexicon) { x.Words = nil }), api.ErrFew},
		"thirteen words":                {with(func(x *api.Lexicon) { x.Words = make([]api.Word, 13) }), api.ErrMany},
		"a word without letters":        {word(3, api.Word{}), api.ErrShape},
		"a word of nine letters":        {word(3, api.Word{Text: "MANIBVSQV"}), api.ErrShape},
		"a small letter":                {word(0, api.Word{Text: "Dis"}), api.ErrShape},
		"a byte before A":               {word(0, api.Word{Text: "DI@"}), api.ErrShape},
		"a byte after Z":                {word(0, api.Word{Text: "[IS"}), api.ErrShape},
		"a form below":                  {word(2, api.Word{Text: "DEO", Form: -1}), api.ErrAbsent},
		"a form above":                  {word(2, api.Word{Text: "DEO", Form: 2}), api.ErrAbsent},
		"a word twice":                  {word(2, api.Word{Text: "DIS"}), api.ErrTwice},
		"the last word twice":           {word(3, api.Word{Text: "MANIBVS", Form: 1}), api.ErrTwice},
		"25 widths":                     {with(func(x *api.Lexicon) { x.Widths = x.Widths[:25] }), api.ErrShape},
		"27 widths":                     {with(func(x *api.Lexicon) { x.Widths = append(x.Widths, span(1, 1)) }), api.ErrShape},
		"Low below":                     {width(25, span(0, 1)), api.ErrBounds},
		"Low above":                     {width(0, span(101, 100)), api.ErrBounds},
		"High below":                    {width(0, span(1, 0)), api.ErrBounds},
		"High above":                    {width(25, span(1, 101)), api.ErrBounds},
		"Low after High":                {width(25, span(3, 2)), api.ErrSequence},
		"forms before words":            {with(func(x *api.Lexicon) { x.Next[1] = nil; x.Words = nil }), api.ErrShape},
		"no forms before Last":          {with(func(x *api.Lexicon) { x.First = nil; x.Next = nil }), api.ErrFew},
		"many forms before Last":        {with(func(x *api.Lexicon) { x.First = make([]bool, 6); x.Last = nil }), api.ErrMany},
		"many words before one":         {with(func(x *api.Lexicon) { x.Words = make([]api.Word, 13); x.Widths = nil }), api.ErrMany},
		"letters before form":           {word(1, api.Word{Text: "a", Form: 2}), api.ErrShape},
		"form before the same word":     {with(func(x *api.Lexicon) { x.Words[0].Form, x.Words[1] = 5, api.Word{Text: "DIS", Form: 5} }), api.ErrAbsent},
		"one word before the next one":  {with(func(x *api.Lexicon) { x.Words[1], x.Words[2].Text = x.Words[0], "" }), api.ErrTwice},
		"words before widths":           {with(func(x *api.Lexicon) { x.Words[3].Form = 2; x.Widths = nil }), api.ErrAbsent},
		"how many widths before one":    {with(func(x *api.Lexicon) { x.Widths = []api.Span{span(0, 0)} }), api.ErrShape},
		"bounds of High before order":   {width(7, span(100, -5)), api.ErrBounds},
		"one width before the next one": {with(func(x *api.Lexicon) { x.Widths[3], x.Widths[4] = span(2, 1), span(0, 0) }), api.ErrSequence},
	} {
		if e := Check(c.x); e != c.want {
			t.Error(name, e, c.want)
		}
		oneError(t, name, c.x, nil, c.want)
		oneError(t, name, c.x, exampleRow(8, 14), c.want)
	}
	for i, x := range []api.Lexicon{
		example(), free("A"), greatest(), word(1, api.Word{Text: "DIS", Form: 1}), word(1, api.Word{Text: "DI"}), word(1, api.Word{Text: "AZAZAZAZ"}), width(0, span(1, 100)), width(25, span(100, 100)), width(25, span(1, 1)),
		with(func(x *api.Lexicon) { x.First, x.Last, x.Next[0] = make([]bool, 2), make([]bool, 2), make([]bool, 2) }),
	} {
		if e := Check(x); e != api.OK {
			t.Error(i, e)
		}
		oneError(t, "row after lexicon", x, nil, api.ErrFew)
	}
}

// greatest is a lexicon with all lists as long, and all numbers as great, as they may be.
func greatest() api.Lexicon {
	x := api.Lexicon{First: slices.Repeat([]bool{true}, 5), Last: slices.Repeat([]bool{true}, 5), Widths: slices.Repeat([]api.Span{span(100, 100)}, 26)}
	for form := range 5 {
		x.Next = append(x.Next, x.First)
		x.Words = append(x.Words, api.Word{Text: "ZZZZZZZZ", Form: form}, api.Word{Text: "ZZZZZZZA", Form: form})
	}
	x.Words = append(x.Words, api.Word{Text: "Z"}, api.Word{Text: "A", Form: 4})
	return x
}

const everyLetter = "ABCDEFGHIJKLMNOPQRSTUVWXYZ"

func TestRowErrorsP2_1(t *testing.T) {
	cells := func(list ...api.Cell) []api.Cell { return list }
	for name, c := range map[string]struct {
		r    []api.Cell
		want api.Errno
	}{
		"no cells":                       {nil, api.ErrFew},
		"25 cells":                       {make([]api.Cell, 25), api.ErrMany},
		"a letter twice":                 {cells(api.Cell{Letters: "SS"}), api.ErrShape},
		"letters that descend":           {cells(api.Cell{Letters: "TS"}), api.ErrShape},
		"letters that descend at last":   {cells(api.Cell{Letters: "ACB"}), api.ErrShape},
		"a small letter":                 {cells(api.Cell{Letters: "s"}), api.ErrShape},
		"a byte before A":                {cells(api.Cell{Letters: "@A"}), api.ErrShape},
		"a byte after Z":                 {cells(api.Cell{Letters: "Z["}), api.ErrShape},
		"a full stop":                    {cells(api.Cell{Letters: "."}), api.ErrShape},
		"all letters and one more":       {cells(api.Cell{Letters: everyLetter + "a"}), api.ErrShape},
		"a square with a Low":            {cells(api.Cell{Letters: "S", Width: span(1, 0)}), api.ErrShape},
		"a square with a High":           {cells(api.Cell{Letters: "S", Width: span(0, 1)}), api.ErrShape},
		"any letter with a width":        {cells(api.Cell{Width: span(5, 5)}), api.ErrShape},
		"a gap with a letter":            {cells(api.Cell{Letters: "S", Gap: true}), api.ErrShape},
		"Low below":                      {cells(wide(-1, 1)), api.ErrBounds},
		"Low above":                      {cells(wide(1001, 1000)), api.ErrBounds},
		"High below":                     {cells(wide(0, -1)), api.ErrBounds},
		"High above":                     {cells(wide(0, 1001)), api.ErrBounds},
		"Low after High":                 {cells(wide(9, 8)), api.ErrSequence},
		"four gaps":                      {cells(wide(0, 1), wide(0, 1), api.Cell{}, wide(0, 1), wide(0, 1)), api.ErrMany},
		"many cells before one":          {slices.Repeat([]api.Cell{{Letters: "s"}}, 25), api.ErrMany},
		"letters of a gap before bounds": {cells(api.Cell{Letters: "S", Gap: true, Width: span(-1, 0)}), api.ErrShape},
		"bounds before order":            {cells(wide(3, -1)), api.ErrBounds},
		"one cell before the next one":   {cells(wide(9, 8), wide(-1, 0), api.Cell{Letters: "s"}), api.ErrSequence},
		"the fourth gap before the next": {cells(wide(0, 1), wide(0, 1), wide(0, 1), wide(0, 1), api.Cell{Letters: "s"}), api.ErrMany},
		"the fourth gap itself before":   {cells(wide(0, 1), wide(0, 1), wide(0, 1), wide(2, 1), api.Cell{Letters: "s"}), api.ErrSequence},
		"a cell before the fourth gap":   {cells(wide(0, 1), wide(0, 1), wide(0, 1), api.Cell{Letters: "s"}, wide(0, 1)), api.ErrShape},
	} {
		if e := CheckRow(c.r); e != c.want {
			t.Error(name, e, c.want)
		}
		if text, e := Write(c.r); e != c.want || text != "" {
			t.Error(name, text, e, c.want)
		}
		oneError(t, name, example(), c.r, c.want)
	}
	for i, r := range [][]api.Cell{
		exampleRow(8, 14), make([]api.Cell, 24), cells(api.Cell{Letters: everyLetter}), cells(api.Cell{Letters: "AZ"}), cells(wide(0, 0)), cells(wide(1000, 1000)), cells(wide(0, 1000)),
		cells(wide(0, 1), wide(0, 1), wide(0, 1)), slices.Concat(cells(wide(0, 1)), make([]api.Cell, 21), cells(wide(0, 1), wide(0, 1))),
	} {
		if e := CheckRow(r); e != api.OK {
			t.Error(i, e)
		}
	}
}

func TestOtherErrorsP2_1(t *testing.T) {
	for _, c := range []struct {
		from, most int
		want       api.Errno
	}{{0, 0, api.OK}, {0, 500, api.OK}, {500, 0, api.OK}, {500, 500, api.OK}, {-1, 0, api.ErrBounds}, {0, -1, api.ErrBounds}, {501, 0, api.ErrBounds}, {0, 501, api.ErrBounds}, {math.MinInt, math.MinInt, api.ErrBounds}, {math.MaxInt, math.MaxInt, api.ErrBounds}} {
		if list, e := List(example(), exampleRow(8, 14), c.from, c.most); e != c.want || e != api.OK && list != nil {
			t.Error(c, list, e)
		}
	}
}

// TestListP2_1 has rows with all of their fillings.
func TestListP2_1(t *testing.T) {
	long, brief := filling([]int{0, 1}, 6), filling([]int{0, 3}, 4)
	two := free("A", "AB", "B")
	gaps := func(cells ...api.Cell) []api.Cell { return cells }
	for name, c := range map[string]struct {
		x    api.Lexicon
		r    []api.Cell
		want []api.Filling
	}{
		"R":                          {example(), exampleRow(8, 14), []api.Filling{long, brief}},
		"R with the gap 8..12":       {example(), exampleRow(8, 12), []api.Filling{brief}},
		"Low reaches the shorter":    {example(), exampleRow(11, 11), []api.Filling{brief}},
		"Low just reached":           {example(), exampleRow(12, 1000), []api.Filling{long, brief}},
		"Low just not reached":       {example(), exampleRow(13, 1000), []api.Filling{long}},
		"Low just reached by long":   {example(), exampleRow(18, 1000), []api.Filling{long}},
		"Low not reached by long":    {example(), exampleRow(19, 1000), nil},
		"High just reached":          {example(), exampleRow(0, 9), []api.Filling{brief}},
		"High just not reached":      {example(), exampleRow(0, 8), nil},
		"High just reached by long":  {example(), exampleRow(0, 13), []api.Filling{long, brief}},
		"the last word may not end":  {example(), squares("DIS"), nil},
		"no word may be the first":   {with(func(x *api.Lexicon) { x.First[0] = false }), exampleRow(8, 14), nil},
		"may not follow":             {with(func(x *api.Lexicon) { x.Next[0][1] = false; x.Next[1][0] = true }), exampleRow(8, 14), nil},
		"without a gap":              {example(), squares("DEISMANIS"), []api.Filling{filling([]int{2, 3})}},
		"too short":                  {example(), squares("DEISMANI"), nil},
		"too long":                   {example(), squares("DEISMANISS"), nil},
		"words before their parts":   {two, squares("AB"), []api.Filling{filling([]int{0, 2}), filling([]int{1})}},
		"any letter":                 {two, squares("A."), []api.Filling{filling([]int{0, 0}), filling([]int{0, 2}), filling([]int{1})}},
		"several letters":            {two, []api.Cell{{Letters: "AB"}}, []api.Filling{filling([]int{0}), filling([]int{2})}},
		"all letters by name":        {two, []api.Cell{{Letters: everyLetter}}, []api.Filling{filling([]int{0}), filling([]int{2})}},
		"a letter that no word has":  {two, []api.Cell{{Letters: "BC"}}, []api.Filling{filling([]int{2})}},
		"Z alone":                    {free("Z", "Y"), []api.Cell{{Letters: "Z"}}, []api.Filling{filling([]int{0})}},
		"a gap of no letters":        {two, gaps(wide(0, 0), api.Cell{Letters: "A"}), []api.Filling{filling([]int{0}, 0)}},
		"a last gap of no letters":   {two, gaps(api.Cell{Letters: "A"}, wide(0, 0), wide(0, 0)), []api.Filling{filling([]int{0}, 0, 0)}},
		"no letters, but a width":    {two, gaps(wide(1, 1), api.Cell{Letters: "A"}), []api.Filling{filling([]int{0, 0}, 1), filling([]int{2, 0}, 1)}},
		"no text has no letters":     {two, gaps(wide(0, 0)), nil},
		"one text, several fills":    {free("ABC"), gaps(wide(0, 2), wide(0, 2)), []api.Filling{filling([]int{0}, 1, 2), filling([]int{0}, 2, 1)}},
		"fills of three gaps":        {free("AB"), gaps(wide(0, 1), wide(0, 1), wide(0, 1)), []api.Filling{filling([]int{0}, 0, 1, 1), filling([]int{0}, 1, 0, 1), filling([]int{0}, 1, 1, 0)}},
		"words before fills":         {free("A", "B"), gaps(wide(0, 1), wide(0, 1)), []api.Filling{filling([]int{0}, 0, 1), filling([]int{0}, 1, 0), filling([]int{0, 0}, 1, 1), filling([]int{0, 1}, 1, 1), filling([]int{1}, 0, 1), filling([]int{1}, 1, 0), filling([]int{1, 0}, 1, 1), filling([]int{1, 1}, 1, 1)}},
		"eight words":                {free("A"), squares("AAAAAAAA"), []api.Filling{filling([]int{0, 0, 0, 0, 0, 0, 0, 0})}},
		"nine words":                 {free("A"), squares("AAAAAAAAA"), nil},
		"eight words in a gap":       {free("A"), gaps(wide(8, 8)), []api.Filling{filling([]int{0, 0, 0, 0, 0, 0, 0, 0}, 8)}},
		"nine words in a gap":        {free("A"), gaps(wide(9, 9)), nil},
		"ten letters in a gap":       {free("ABABA"), gaps(wide(10, 1000)), []api.Filling{filling([]int{0, 0}, 10)}},
		"eleven letters in a gap":    {free("ABABA", "B"), gaps(wide(11, 1000)), nil},
		"a text that ends in a gap":  {free("AB"), gaps(api.Cell{Letters: "A"}, wide(1, 3)), []api.Filling{filling([]int{0}, 1), filling([]int{0, 0}, 3)}},
		"a text that starts in gaps": {free("AB"), gaps(wide(0, 2), api.Cell{Letters: "B"}), []api.Filling{filling([]int{0}, 1)}},
	} {
		n, e := Count(c.x, c.r)
		list, f := List(c.x, c.r, 0, 500)
		if n != len(c.want) || !sameFillings(list, c.want) || e != api.OK || f != api.OK {
			t.Error(name, n, list, e, f)
		}
		for _, g := range c.want {
			if e := Fits(c.x, c.r, g); e != api.OK {
				t.Error(name, g, e)
			}
		}
	}
}

// many is a row of five squares that has 500 fillings with the words from A to E, and one more with XAAAA.
func many() []api.Cell {
	return []api.Cell{{Letters: "ABCDEX"}, {Letters: "ABCDE"}, {Letters: "ABCDE"}, {Letters: "ABCD"}, {Letters: "A"}}
}

func TestMaxListedP2_1(t *testing.T) {
	enough, more := free("A", "B", "C", "D", "E"), free("A", "B", "C", "D", "E", "XAAAA")
	less := many()
	less[0], less[4] = api.Cell{Letters: "X"}, api.Cell{Letters: "A"}
	for name, c := range map[string]struct {
		x     api.Lexicon
		r     []api.Cell
		count int
		e     api.Errno
	}{
		"500":     {enough, many(), 500, api.OK},
		"501":     {more, many(), 500, api.ErrMany},
		"none":    {enough, less, 0, api.ErrNone},
		"one":     {more, less, 1, api.OK},
		"729":     {free("A", "B", "C"), make([]api.Cell, 6), 500, api.ErrMany},
		"no end":  {greatest(), []api.Cell{wide(0, 1000), wide(0, 1000), wide(0, 1000)}, 500, api.ErrMany},
		"24 any":  {greatest(), make([]api.Cell, 24), 500, api.ErrMany},
		"256":     {free("A", "B"), make([]api.Cell, 8), 256, api.OK},
		"too far": {free("A", "B"), make([]api.Cell, 9), 0, api.ErrNone},
	} {
		n, e := Count(c.x, c.r)
		all, f := List(c.x, c.r, 0, 500)
		shared, g := Shared(c.x, c.r)
		if n != c.count || len(all) != n || e != api.OK || f != api.OK || g != c.e || (len(shared) > 0) != (g == api.OK) {
			t.Error(name, n, len(all), len(shared), e, f, g)
		}
		for _, from := range []int{0, 1, 499, 500} {
			for _, most := range []int{0, 1, 2, 499, 500} {
				list, e := List(c.x, c.r, from, most)
				if first, end := min(from, n), min(from+most, n); e != api.OK || !sameFillings(list, all[first:max(first, end)]) {
					t.Error(name, from, most, len(list), e)
				}
			}
		}
	}
}

func TestFitsP2_2(t *testing.T) {
	r := exampleRow(8, 14)
	eight := []int{0, 0, 0, 0, 0, 0, 0, 0}
	for name, c := range map[string]struct {
		x    api.Lexicon
		r    []api.Cell
		f    api.Filling
		want api.Errno
	}{
		"R":                           {example(), r, filling([]int{0, 3}, 4), api.OK},
		"R, the other one":            {example(), r, filling([]int{0, 1}, 6), api.OK},
		"a letter that does not fit":  {example(), r, filling([]int{2, 3}, 4), api.ErrClash},
		"the first letter":            {free("AB", "BB"), squares("BB"), filling([]int{0}), api.ErrClash},
		"a word above":                {example(), r, filling([]int{0, 4}, 4), api.ErrAbsent},
		"a word far above":            {example(), r, filling([]int{0, math.MaxInt}, 4), api.ErrAbsent},
		"a word below":                {example(), r, filling([]int{-1, 3}, 4), api.ErrAbsent},
		"the last word":               {example(), r, filling([]int{0, 3}, 4), api.OK},
		"absent before clash":         {example(), r, filling([]int{3, 0, 0, 0, 0, 0, 0, 0, 0, 4}), api.ErrAbsent},
		"no words":                    {example(), r, filling(nil, 0), api.ErrClash},
		"no words in no letters":      {example(), []api.Cell{wide(0, 0)}, filling(nil, 0), api.ErrClash},
		"too few words":               {example(), r, filling([]int{3}, 1), api.ErrClash},
		"too many words":              {example(), r, filling([]int{0, 3, 3}, 9), api.ErrClash},
		"no number for a gap":         {example(), r, filling([]int{0, 3}), api.ErrClash},
		"a number too many":           {example(), r, filling([]int{0, 3}, 4, 0), api.ErrClash},
		"a number without a gap":      {free("A"), squares("A"), filling([]int{0}, 0), api.ErrClash},
		"too many letters in the gap": {example(), r, filling([]int{0, 3}, 5), api.ErrClash},
		"too few letters in the gap":  {example(), r, filling([]int{0, 3}, 3), api.ErrClash},
		"letters below nothing":       {free("AA"), []api.Cell{wide(0, 9), wide(0, 9)}, filling([]int{0}, 3, -1), api.ErrClash},
		"letters far below":           {free("AA"), []api.Cell{wide(0, 9), wide(0, 9)}, filling([]int{0}, math.MinInt, 2), api.ErrClash},
		"letters far above":           {free("AA"), []api.Cell{wide(0, 9), wide(0, 9)}, filling([]int{0}, math.MaxInt, 2), api.ErrClash},
		"ten letters in a gap":        {free("ABABA"), []api.Cell{wide(0, 1000)}, filling([]int{0, 0}, 10), api.OK},
		"eleven letters in a gap":     {free("ABABA", "B"), []api.Cell{wide(0, 1000)}, filling([]int{0, 0, 1}, 11), api.ErrClash},
		"a gap too wide":              {example(), exampleRow(8, 12), filling([]int{0, 1}, 6), api.ErrClash},
		"High just reached":           {example(), exampleRow(8, 13), filling([]int{0, 1}, 6), api.OK},
		"a gap too narrow":            {example(), exampleRow(13, 14), filling([]int{0, 3}, 4), api.ErrClash},
		"Low just reached":            {example(), exampleRow(12, 14), filling([]int{0, 3}, 4), api.OK},
		"the first word":              {free("A"), squares("A"), filling([]int{0}), api.OK},
		"may not be the first":        {with(func(x *api.Lexicon) { x.First[0] = false }), r, filling([]int{0, 3}, 4), api.ErrClash},
		"may not be the last":         {with(func(x *api.Lexicon) { x.Last[1] = false }), r, filling([]int{0, 3}, 4), api.ErrClash},
		"may not follow":              {with(func(x *api.Lexicon) { x.Next[0][1] = false; x.Next[1][0] = true }), r, filling([]int{0, 3}, 4), api.ErrClash},
		"eight words":                 {free("A"), squares("AAAAAAAA"), filling(eight), api.OK},
		"nine words":                  {free("A"), squares("AAAAAAAAA"), filling(append(eight, 0)), api.ErrClash},
		"words without end":           {free("A"), squares("A"), filling(make([]int, 100000)), api.ErrClash},
	} {
		if e := Fits(c.x, c.r, c.f); e != c.want {
			t.Error(name, e, c.want)
		}
		if text, e := Print(c.x, c.r, c.f); e != c.want || (text == "") != (e != api.OK) {
			t.Error(name, text, e, c.want)
		}
	}
}

func TestSharedP2_3(t *testing.T) {
	for name, c := range map[string]struct {
		x    api.Lexicon
		r    []api.Cell
		want []api.Common
		e    api.Errno
	}{
		"R":                    {example(), exampleRow(8, 14), []api.Common{{Letters: "D"}, {Letters: "I"}, {Letters: "S"}, {Head: "MANI", Many: span(4, 6)}, {Letters: "S"}}, api.OK},
		"one filling":          {example(), exampleRow(8, 12), []api.Common{{Letters: "D"}, {Letters: "I"}, {Letters: "S"}, {Head: "MANI", Tail: "MANI", Many: span(4, 4)}, {Letters: "S"}}, api.OK},
		"none":                 {example(), exampleRow(0, 7), nil, api.ErrNone},
		"letters in some":      {free("A", "AB", "B"), squares("A."), []api.Common{{Letters: "A"}, {Letters: "AB"}}, api.OK},
		"letters in none":      {free("A", "Z"), []api.Cell{{Letters: "AMZ"}}, []api.Common{{Letters: "AZ"}}, api.OK},
		"a tail":               {free("AB", "CAB"), []api.Cell{wide(0, 3)}, []api.Common{{Tail: "AB", Many: span(2, 3)}}, api.OK},
		"head and tail":        {free("ABA", "ACA"), []api.Cell{wide(0, 3)}, []api.Common{{Head: "A", Tail: "A", Many: span(3, 3)}}, api.OK},
		"head and tail share":  {free("AA"), []api.Cell{wide(0, 4)}, []api.Common{{Head: "AA", Tail: "AA", Many: span(2, 4)}}, api.OK},
		"no letters in one":    {free("AB"), []api.Cell{wide(0, 2), wide(0, 1)}, []api.Common{{Head: "A", Many: span(1, 2)}, {Many: span(0, 1)}}, api.OK},
		"the longest is first": {free("ABC", "AB"), []api.Cell{wide(0, 3)}, []api.Common{{Head: "AB", Many: span(2, 3)}}, api.OK},
		"no letters in all":    {free("A"), []api.Cell{wide(0, 0), {Letters: "A"}}, []api.Common{{}, {Letters: "A"}}, api.OK},
		"500":                  {free("A", "B", "C", "D", "E"), many(), []api.Common{{Letters: "ABCDE"}, {Letters: "ABCDE"}, {Letters: "ABCDE"}, {Letters: "ABCD"}, {Letters: "A"}}, api.OK},
		"501":                  {free("A", "B", "C", "D", "E", "XAAAA"), many(), nil, api.ErrMany},
	} {
		if shared, e := Shared(c.x, c.r); !slices.Equal(shared, c.want) || e != c.e {
			t.Error(name, shared, e)
		}
	}
}

func TestStuckP2_4(t *testing.T) {
	for name, c := range map[string]struct {
		x    api.Lexicon
		r    []api.Cell
		want int
		e    api.Errno
	}{
		"R":                             {example(), exampleRow(8, 14), 0, api.ErrNone},
		"Q":                             {example(), append(squares("D.X"), wide(0, 9)), 2, api.OK},
		"at the first cell":             {example(), squares("XIS"), 0, api.OK},
		"at a word that is not first":   {example(), squares("MANIS"), 0, api.OK},
		"at the end: may not be last":   {example(), squares("DIS"), 3, api.OK},
		"at the end: a word cut off":    {example(), squares("DI"), 2, api.OK},
		"at a word that may not follow": {example(), squares("DISDEIS"), 3, api.OK},
		"behind a last word":            {example(), squares("DISMANISM"), 8, api.OK},
		"within the last word":          {example(), squares("DISMANIX"), 7, api.OK},
		"at a gap too narrow":           {example(), []api.Cell{wide(1, 1)}, 0, api.OK},
		"at a gap too wide":             {example(), []api.Cell{wide(50, 99)}, 0, api.OK},
		"at a gap in a row":             {example(), slices.Concat(squares("DIS"), []api.Cell{wide(40, 99)}, squares("S")), 3, api.OK},
		"behind a gap":                  {example(), []api.Cell{wide(18, 30), {Letters: "X"}}, 1, api.OK},
		"at the end, of no letters":     {example(), []api.Cell{wide(0, 0)}, 1, api.OK},
		"behind a gap of no letters":    {example(), []api.Cell{wide(0, 0), {Letters: "M"}}, 1, api.OK},
		"no first word: a gap is empty": {with(func(x *api.Lexicon) { x.First[0] = false }), []api.Cell{wide(0, 9), {}}, 1, api.OK},
		"no first word: a gap is not":   {with(func(x *api.Lexicon) { x.First[0] = false }), []api.Cell{wide(1, 9), {}}, 0, api.OK},
		"at the ninth word":             {free("A"), squares("AAAAAAAAA"), 8, api.OK},
		"eight words":                   {free("A"), squares("AAAAAAAA"), 0, api.ErrNone},
		"the ninth word in a gap":       {free("A"), []api.Cell{wide(9, 9), {}}, 0, api.OK},
		"eleven letters in a gap":       {free("AAAA"), []api.Cell{wide(11, 1000), {}}, 0, api.OK},
		"ten letters in a gap":          {free("AAAA"), []api.Cell{wide(10, 1000), {Letters: "B"}}, 1, api.OK},
		"longest row":                   {free("AB"), squares("ABABABABABABABABAAAAAAAA"), 16, api.OK},
		"at the last cell":              {free("AAA"), squares("AAAAAAAAAAAAAAAAAAAAAAAB"), 23, api.OK},
		"at the end of the longest row": {free("AAAAAAA"), squares("AAAAAAAAAAAAAAAAAAAAAAAA"), 24, api.OK},
	} {
		if n, e := Stuck(c.x, c.r); n != c.want || e != c.e {
			t.Error(name, n, e)
		}
	}
}

func TestPrintP2_5(t *testing.T) {
	open := with(func(x *api.Lexicon) { x.Last[0] = true })
	for name, c := range map[string]struct {
		x    api.Lexicon
		r    []api.Cell
		f    api.Filling
		want string
	}{
		"R":                             {example(), exampleRow(8, 14), filling([]int{0, 3}, 4), "D[I]S [MANI]S"},
		"all sure":                      {open, squares("DIS"), filling([]int{0}), "DIS"},
		"none sure":                     {open, squares("..."), filling([]int{0}), "[DIS]"},
		"several letters":               {open, []api.Cell{{Letters: "DE"}, {Letters: "I"}, {Letters: "ST"}}, filling([]int{0}), "[D]I[S]"},
		"all letters by name":           {open, []api.Cell{{Letters: "D"}, {Letters: everyLetter}, {Letters: "S"}}, filling([]int{0}), "D[I]S"},
		"brackets around a blank":       {example(), squares("DI....IS"), filling([]int{0, 3}), "DI[S MAN]IS"},
		"bracket behind a blank":        {example(), squares("DIS...IS"), filling([]int{0, 3}), "DIS [MAN]IS"},
		"bracket ahead of a blank":      {example(), squares("...MANIS"), filling([]int{0, 3}), "[DIS] MANIS"},
		"a blank between sure letters":  {example(), squares("D.SM..IS"), filling([]int{0, 3}), "D[I]S M[AN]IS"},
		"two gaps":                      {example(), []api.Cell{wide(0, 99), wide(0, 99)}, filling([]int{0, 3}, 3, 5), "[DIS MANIS]"},
		"a gap and a square":            {example(), slices.Concat([]api.Cell{wide(0, 99)}, squares(".NIS")), filling([]int{0, 3}, 4), "[DIS MA]NIS"},
		"a gap of no letters":           {example(), slices.Concat(squares("DIS"), []api.Cell{wide(0, 0)}, squares("MANIS")), filling([]int{0, 3}, 0), "DIS MANIS"},
		"a gap of none within brackets": {example(), slices.Concat(squares("DI."), []api.Cell{wide(0, 0)}, squares(".ANIS")), filling([]int{0, 3}, 0), "DI[S M]ANIS"},
		"a gap of none at the end":      {open, slices.Concat(squares("DI."), []api.Cell{wide(0, 0)}), filling([]int{0}, 0), "DI[S]"},
		"three words":                   {free("A"), squares("A.A"), filling([]int{0, 0, 0}), "A [A] A"},
		"eight words":                   {free("A"), squares("A..AA..."), filling([]int{0, 0, 0, 0, 0, 0, 0, 0}), "A [A A] A A [A A A]"},
	} {
		if text, e := Print(c.x, c.r, c.f); text != c.want || e != api.OK {
			t.Error(name, text, e)
		}
	}
}

// wild are numbers far outside all limits, and some within.
func wild(i int) int {
	return []int{math.MinInt, -1 << 32, -1, 0, 1, 2, 8, 101, 1001, math.MaxInt}[i%10]
}

func TestAnyArgumentsP1(t *testing.T) {
	texts := []string{"", "A", "DIS", "\xff", "AAAAAAAAA", "ab", "Z[", "AB"}
	for i := range 4000 {
		n := func(k int) int { return wild(i*31/(k+1) + k*7) }
		x := example()
		switch i % 5 {
		case 0:
			x.Words[i%4] = api.Word{Text: texts[i%8], Form: n(1)}
		case 1:
			x.Widths[i%26] = span(n(2), n(3))
		case 2:
			x.First, x.Next = make([]bool, i%7), make([][]bool, i%6)
		case 3:
			x.Words, x.Widths = make([]api.Word, i%14), make([]api.Span, i%28)
		}
		var r []api.Cell
		for c := range i % 26 {
			if r = append(r, api.Cell{Letters: texts[(i+c)%8]}); (i+c)%9 == 0 {
				r[c] = wide(n(c), n(c+1))
			}
		}
		f := filling([]int{n(4), 0, n(5)}, n(6), n(7))
		if errors, left := errorsOf(x, r, n(8), n(9), f); Check(x) != api.OK && left || CheckRow(r) != api.OK && left {
			t.Fatal(i, x, r, errors)
		}
	}
	bytes := []byte("[-]().ABZ0129\n a\xff\x00")
	for i := range 6000 {
		text := []byte("D.S[8-14](AB)S\n")
		text[i%len(text)] = bytes[i%len(bytes)]
		text[i/7%len(text)] = bytes[i/5%len(bytes)]
		if r, _, e := Read(string(text[:len(text)-i%3])); e != api.OK && r != nil {
			t.Fatal(i, string(text), r, e)
		}
	}
	if errors, left := errorsOf(api.Lexicon{}, nil, 0, 0, api.Filling{}); slices.Min(errors) != api.ErrFew || left {
		t.Error(errors, left)
	}
}

func clonedLexicon(x api.Lexicon) api.Lexicon {
	x.Words, x.First, x.Last, x.Widths = slices.Clone(x.Words), slices.Clone(x.First), slices.Clone(x.Last), slices.Clone(x.Widths)
	x.Next = slices.Clone(x.Next)
	for i := range x.Next {
		x.Next[i] = slices.Clone(x.Next[i])
	}
	return x
}

func TestArgumentsStayR4(t *testing.T) {
	for i, s := range smalls()[:100] {
		f := filling([]int{0, 1}, 1)
		x, r, g := clonedLexicon(s.x), slices.Clone(s.r), filling([]int{0, 1}, 1)
		errorsOf(s.x, s.r, 0, 500, f)
		Write(s.r)
		if !reflect.DeepEqual(x, s.x) || !slices.Equal(r, s.r) || !sameFilling(f, g) {
			t.Fatal(i, x, s.x, r, s.r, f)
		}
	}
}

// TestResultsApartR4 changes each filling of a list, which must not change another one.
func TestResultsApartR4(t *testing.T) {
	x, r := free("A", "AB", "B"), []api.Cell{wide(0, 2), wide(0, 1), {}, {}}
	list, _ := List(x, r, 0, 500)
	want, _ := List(x, r, 0, 500)
	for i, f := range list {
		if !sameFilling(f, want[i]) {
			t.Fatal(i, f, want[i])
		}
		for k := range f.Words {
			f.Words[k] = -1
		}
		for k := range f.Fills {
			f.Fills[k] = -1
		}
		_, _ = append(f.Words, -1), append(f.Fills, -1)
	}
	if again, _ := List(x, r, 0, 500); len(want) < 10 || !sameFillings(again, want) {
		t.Error(again, want)
	}
}

func TestNilAsEmptyR4(t *testing.T) {
	if e := Fits(free("A"), squares("A"), api.Filling{Words: []int{0}, Fills: []int{}}); e != api.OK {
		t.Error(e)
	}
	if e := CheckRow([]api.Cell{}); e != api.ErrFew {
		t.Error(e)
	}
	if e := Fits(free("A"), squares("A"), api.Filling{Words: []int{}}); e != api.ErrClash {
		t.Error(e)
	}
	if text, _ := Print(free("A"), squares("A"), filling([]int{0})); strings.Contains(text, "[") {
		t.Error(text)
	}
}
