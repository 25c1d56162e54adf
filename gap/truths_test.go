package gap

import (
	"math/rand"
	"slices"
	"strings"
	"sync"

	"cippus/api"
)

func span(low, high int) api.Span { return api.Span{Low: low, High: high} }

// example is the lexicon X of the chapter.
func example() api.Lexicon {
	x := api.Lexicon{
		Words:  []api.Word{{Text: "DIS"}, {Text: "MANIBVS", Form: 1}, {Text: "DEIS"}, {Text: "MANIS", Form: 1}},
		First:  []bool{true, false},
		Last:   []bool{false, true},
		Next:   [][]bool{{false, true}, {false, false}},
		Widths: slices.Repeat([]api.Span{span(2, 3)}, 26),
	}
	x.Widths['I'-'A'], x.Widths['M'-'A'] = span(1, 2), span(4, 4)
	return x
}

// with returns the lexicon X with a change.
func with(change func(x *api.Lexicon)) api.Lexicon {
	x := example()
	change(&x)
	return x
}

// free returns a lexicon of words that may follow each other as they like; all letters are 1 wide.
func free(words ...string) api.Lexicon {
	x := api.Lexicon{First: []bool{true}, Last: []bool{true}, Next: [][]bool{{true}}, Widths: slices.Repeat([]api.Span{span(1, 1)}, 26)}
	for _, word := range words {
		x.Words = append(x.Words, api.Word{Text: word})
	}
	return x
}

func wide(low, high int) api.Cell { return api.Cell{Gap: true, Width: span(low, high)} }

// squares returns a square for each byte of a text; a full stop is one that any letter fits.
func squares(text string) []api.Cell {
	var r []api.Cell
	for _, c := range text {
		r = append(r, api.Cell{Letters: strings.Trim(string(c), ".")})
	}
	return r
}

// exampleRow is the row R of the chapter with a gap of another width.
func exampleRow(low, high int) []api.Cell {
	return slices.Concat(squares("D.S"), []api.Cell{wide(low, high)}, squares("S"))
}

func filling(words []int, fills ...int) api.Filling { return api.Filling{Words: words, Fills: fills} }

func sameFilling(a, b api.Filling) bool {
	return slices.Equal(a.Words, b.Words) && slices.Equal(a.Fills, b.Fills)
}

func sameFillings(a, b []api.Filling) bool { return slices.EqualFunc(a, b, sameFilling) }

func hasFilling(list []api.Filling, f api.Filling) bool {
	return slices.ContainsFunc(list, func(g api.Filling) bool { return sameFilling(f, g) })
}

// lists hands over all lists of words, in order, that begin as a text does and have no more than so many letters.
func lists(x api.Lexicon, letters int, words []int, visit func(words []int, text string)) {
	text := ""
	for _, w := range words {
		text += x.Words[w].Text
	}
	if visit(words, text); len(text) >= letters || len(words) == 8 {
		return
	}
	for w := range x.Words {
		if len(words) == 0 && x.First[x.Words[w].Form] || len(words) > 0 && x.Next[x.Words[words[len(words)-1]].Form][x.Words[w].Form] {
			lists(x, letters, append(slices.Clone(words), w), visit)
		}
	}
}

// cuts hands over, in order, all numbers of letters that the gaps of a row may have, so that all cells have so many letters together.
func cuts(r []api.Cell, letters int, fills []int, visit func(fills []int)) {
	if len(r) == 0 {
		if letters == 0 {
			visit(fills)
		}
		return
	}
	if !r[0].Gap {
		cuts(r[1:], letters-1, fills, visit)
		return
	}
	for n := range 11 {
		if n <= letters {
			cuts(r[1:], letters-n, append(slices.Clone(fills), n), visit)
		}
	}
}

// cellsOf returns the letters of each cell if the gaps have so many of them.
func cellsOf(r []api.Cell, text string, fills []int) []string {
	var all []string
	for _, c := range r {
		n := 1
		if c.Gap {
			n, fills = fills[0], fills[1:]
		}
		all = append(all, text[:n])
		text = text[n:]
	}
	return all
}

// may reports whether the letters of each cell may be in it.
func may(x api.Lexicon, r []api.Cell, cells []string) bool {
	for i, c := range r {
		low, high := 0, 0
		for _, letter := range cells[i] {
			low, high = low+x.Widths[letter-'A'].Low, high+x.Widths[letter-'A'].High
		}
		if c.Gap && (low > c.Width.High || high < c.Width.Low) || !c.Gap && c.Letters != "" && !strings.Contains(c.Letters, cells[i]) {
			return false
		}
	}
	return true
}

// most is how many letters a row has at most: each is 1 wide at least.
func most(r []api.Cell) int {
	n := 0
	for _, c := range r {
		if c.Gap {
			n += min(10, c.Width.High)
		} else {
			n++
		}
	}
	return n
}

// ends reports whether words that begin as a text does are one.
func ends(x api.Lexicon, words []int) bool {
	return len(words) > 0 && x.Last[x.Words[words[len(words)-1]].Form]
}

// truths goes through all texts and all fills, in order, and returns the fillings of a row.
func truths(x api.Lexicon, r []api.Cell) []api.Filling {
	var list []api.Filling
	lists(x, most(r), nil, func(words []int, text string) {
		if !ends(x, words) {
			return
		}
		cuts(r, len(text), nil, func(fills []int) {
			if may(x, r, cellsOf(r, text, fills)) {
				list = append(list, filling(words, fills...))
			}
		})
	})
	return list
}

// begins goes through all beginnings of texts, and reports whether there are letters for all cells.
func begins(x api.Lexicon, r []api.Cell) bool {
	found := false
	lists(x, most(r), nil, func(words []int, text string) {
		for n := 0; n <= len(text) && !found; n++ {
			cuts(r, n, nil, func(fills []int) { found = found || may(x, r, cellsOf(r, text[:n], fills)) })
		}
	})
	return found
}

// smallLexicon returns a lexicon of a few short words.
func smallLexicon(r *rand.Rand) api.Lexicon {
	var x api.Lexicon
	forms := 1 + r.Intn(3)
	for range forms {
		x.First, x.Last = append(x.First, r.Intn(3) > 0), append(x.Last, r.Intn(3) > 0)
		next := make([]bool, forms)
		for i := range next {
			next[i] = r.Intn(3) > 0
		}
		x.Next = append(x.Next, next)
	}
	for range 26 {
		low := 1 + r.Intn(3)
		x.Widths = append(x.Widths, span(low, low+r.Intn(3)))
	}
	for len(x.Words) < 2+r.Intn(3) {
		text := ""
		for range 1 + r.Intn(4) {
			text += string(rune('A' + r.Intn(3)))
		}
		if w := (api.Word{Text: text, Form: r.Intn(forms)}); !slices.Contains(x.Words, w) {
			x.Words = append(x.Words, w)
		}
	}
	return x
}

// damaged returns a row of the letters of a text, and how many letters each of its gaps truly has.
func damaged(r *rand.Rand, x api.Lexicon, text string) (row []api.Cell, fills []int) {
	for gaps := 0; text != "" || len(row) == 0; {
		if gaps < 3 && (text == "" || r.Intn(4) == 0) {
			n := min(r.Intn(4), len(text))
			low, high := 0, 0
			for _, letter := range text[:n] {
				low, high = low+x.Widths[letter-'A'].Low, high+x.Widths[letter-'A'].High
			}
			width := low + r.Intn(high-low+1)
			row, fills = append(row, wide(max(0, width-r.Intn(3)), width+r.Intn(3))), append(fills, n)
			text = text[n:]
			gaps++
			continue
		}
		letters := text[:1]
		for _, c := range []string{"A", "B", "C", "D"} {
			if r.Intn(4) == 0 && c != text[:1] {
				letters += c
			}
		}
		shown := []byte(letters)
		slices.Sort(shown)
		cell := api.Cell{Letters: string(shown)}
		if r.Intn(4) == 0 {
			cell.Letters = ""
		}
		row = append(row, cell)
		text = text[1:]
	}
	return row, fills
}

// small is a small lexicon, a row, the filling that is true, if the row was damaged from a text, and all fillings.
type small struct {
	x    api.Lexicon
	r    []api.Cell
	true *api.Filling
	all  []api.Filling
}

// smalls returns rows that were damaged from texts, and each of them once more with a cell that is another one. They are made once, because it takes long to go through all texts.
var smalls = sync.OnceValue(func() []small {
	r := rand.New(rand.NewSource(2))
	var list []small
	for len(list) < 400 {
		x := smallLexicon(r)
		var texts [][]int
		lists(x, 8, nil, func(words []int, text string) {
			if ends(x, words) && len(text) < 12 {
				texts = append(texts, words)
			}
		})
		spoken := len(texts) > 0
		if !spoken {
			texts = append(texts, []int{0, 1})
		}
		words := texts[r.Intn(len(texts))]
		text := ""
		for _, w := range words {
			text += x.Words[w].Text
		}
		row, fills := damaged(r, x, text)
		if most(row) > 16 {
			continue // too many texts to go through
		}
		s := small{x, row, nil, truths(x, row)}
		if spoken {
			f := filling(words, fills...)
			s.true = &f
		}
		other := slices.Clone(row)
		at := r.Intn(len(row))
		if other[at] = (api.Cell{Letters: string(rune('A' + r.Intn(4)))}); row[at].Gap {
			other[at] = wide(row[at].Width.Low+3, row[at].Width.High+3)
		}
		list = append(list, s, small{x, other, nil, truths(x, other)})
	}
	return list
})
