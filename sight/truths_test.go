package sight

import (
	"math/bits"
	"math/rand"
	"slices"
	"strings"

	"cippus/api"
)

// example is the line L of the chapter.
func example() api.Line {
	return api.Line{
		Hands: []api.Hand{
			{Years: api.Span{Low: -400, High: -300}, Shapes: []api.Shape{{Letter: 'A', Strokes: 7}, {Letter: 'L', Strokes: 3}, {Letter: 'T', Strokes: 12}}},
			{Years: api.Span{Low: -320, High: -200}, Shapes: []api.Shape{{Letter: 'A', Strokes: 15}, {Letter: 'L', Strokes: 3}, {Letter: 'T', Strokes: 12}}},
		},
		Worn: 1, Total: 1,
		Squares: [][]api.Light{{{Shows: 15, Seen: 7}}, {{Shows: 15, Seen: 3}}, {{Shows: 3}}},
	}
}

// with returns the line L with a change.
func with(change func(l *api.Line)) api.Line {
	l := example()
	change(&l)
	return l
}

// lit returns the line L with other lights in a square; each of them is two numbers.
func lit(square int, lights ...[2]int) api.Line {
	return with(func(l *api.Line) {
		l.Squares[square] = nil
		for _, light := range lights {
			l.Squares[square] = append(l.Squares[square], api.Light{Shows: light[0], Seen: light[1]})
		}
	})
}

// cloned returns a line that shares no memory with l.
func cloned(l api.Line) api.Line {
	l.Hands = slices.Clone(l.Hands)
	for i := range l.Hands {
		l.Hands[i].Shapes = slices.Clone(l.Hands[i].Shapes)
	}
	l.Squares = slices.Clone(l.Squares)
	for i := range l.Squares {
		l.Squares[i] = slices.Clone(l.Squares[i])
	}
	return l
}

// truth is one way in which all can be, and how many marks it has.
type truth struct {
	hand    int
	letters string
	marks   int
}

// truths goes through all truths of a line, as the chapter says what one is, by trying every set of visible strokes in every square. Total is left out.
func truths(l api.Line) []truth {
	found := map[truth]bool{}
	for h := range l.Hands {
		ways := []truth{{hand: h}}
		for _, lights := range l.Squares {
			ways = longer(ways, squareTruths(l, l.Hands[h], lights))
		}
		for _, w := range ways {
			found[w] = true
		}
	}
	var list []truth
	for w := range found {
		list = append(list, w)
	}
	return list
}

func longer(ways, ends []truth) []truth {
	var out []truth
	for _, w := range ways {
		for _, end := range ends {
			out = append(out, truth{w.hand, w.letters + end.letters, w.marks + end.marks})
		}
	}
	return out
}

func squareTruths(l api.Line, hand api.Hand, lights []api.Light) []truth {
	found := map[truth]bool{}
	for visible := range 1024 {
		if slices.ContainsFunc(lights, func(light api.Light) bool { return visible&light.Shows != light.Seen }) {
			continue
		}
		for _, shape := range hand.Shapes {
			worn := bits.OnesCount(uint(shape.Strokes &^ visible))
			scratches := bits.OnesCount(uint(visible &^ shape.Strokes))
			if worn <= l.Worn && scratches <= l.Scratched {
				found[truth{letters: string(rune(shape.Letter)), marks: worn + scratches}] = true
			}
		}
	}
	var list []truth
	for w := range found {
		list = append(list, w)
	}
	return list
}

// within returns the truths with at most so many marks.
func within(list []truth, total int) []truth {
	return slices.DeleteFunc(slices.Clone(list), func(w truth) bool { return w.marks > total })
}

// handsOf and lettersOf tell what is in some truth of a list.
func handsOf(list []truth) []int {
	var hands []int
	for _, w := range list {
		hands = append(hands, w.hand)
	}
	slices.Sort(hands)
	return slices.Compact(hands)
}

func lettersOf(list []truth, squares int) []string {
	out := make([]string, squares)
	for s := range out {
		for letter := 'A'; letter <= 'Z'; letter++ {
			if slices.ContainsFunc(list, func(w truth) bool { return w.letters[s] == byte(letter) }) {
				out[s] += string(letter)
			}
		}
	}
	return out
}

// restOf is how many letters fit the other squares in truths that have that letter in a square.
func restOf(list []truth, squares, square int, letter byte) int {
	same := slices.DeleteFunc(slices.Clone(list), func(w truth) bool { return w.letters[square] != letter })
	all := lettersOf(same, squares)
	return len(strings.Join(all, "")) - len(all[square])
}

// smallLine returns a line that truly was cut by a hand with some letters, and this hand and the letters.
func smallLine(r *rand.Rand) (l api.Line, hand int, letters string) {
	strokes := []int{16, 64, 1024}[r.Intn(3)]
	for range 1 + r.Intn(3) {
		low := r.Intn(100) - 50
		h := api.Hand{Years: api.Span{Low: low, High: low + r.Intn(100)}}
		for letter := byte('A'); len(h.Shapes) == 0 || letter < 'F' && len(h.Shapes) < 5; letter++ {
			if r.Intn(3) > 0 {
				h.Shapes = append(h.Shapes, api.Shape{Letter: letter, Strokes: 1 + r.Intn(strokes-1)})
			}
		}
		l.Hands = append(l.Hands, h)
	}
	l.Worn, l.Scratched = r.Intn(3), r.Intn(3)
	hand = r.Intn(len(l.Hands))
	for range 1 + r.Intn(3) {
		shape := l.Hands[hand].Shapes[r.Intn(len(l.Hands[hand].Shapes))]
		visible := spoiled(r, shape.Strokes, strokes, &l)
		letters += string(rune(shape.Letter))
		var lights []api.Light
		for range r.Intn(4) {
			shows := r.Intn(strokes)
			lights = append(lights, api.Light{Shows: shows, Seen: shows & visible})
		}
		l.Squares = append(l.Squares, lights)
	}
	l.Total += r.Intn(2)
	return l, hand, letters
}

// spoiled returns the visible strokes of a letter after some are worn and scratched, and counts these in Total.
func spoiled(r *rand.Rand, letter, strokes int, l *api.Line) int {
	visible := letter
	for n := r.Intn(l.Worn + 1); n > 0 && visible > 0; n-- {
		visible &= visible - 1
		l.Total++
	}
	for range r.Intn(l.Scratched + 1) {
		if bit := 1 << r.Intn(10); bit < strokes && bit&(letter|visible) == 0 {
			visible |= bit
			l.Total++
		}
	}
	return visible
}

// smallLines returns lines that have truths, and some that may have none.
func smallLines(n int) []api.Line {
	r := rand.New(rand.NewSource(1))
	var list []api.Line
	for i := range n {
		l, _, _ := smallLine(r)
		if i%3 == 0 {
			l.Total = r.Intn(l.Total + 1)
		}
		if i%5 == 0 {
			s := r.Intn(len(l.Squares))
			shows := r.Intn(1024)
			l.Squares[s] = append(l.Squares[s], api.Light{Shows: shows, Seen: shows & r.Intn(1024)})
		}
		list = append(list, l)
	}
	return list
}
