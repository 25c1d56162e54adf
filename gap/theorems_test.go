package gap

import (
	"math/rand"
	"slices"
	"strings"
	"testing"

	"cippus/api"
	"cippus/sight"
)

func TestTrueP2_7(t *testing.T) {
	tested := 0
	for i, s := range smalls() {
		if s.true == nil {
			continue
		}
		tested++
		n, e := Count(s.x, s.r)
		list, f := List(s.x, s.r, 0, 500)
		if e != api.OK || f != api.OK || n == 0 || n < 500 && !hasFilling(list, *s.true) {
			t.Fatal(i, s, n, list, e, f)
		}
		if e := Fits(s.x, s.r, *s.true); e != api.OK {
			t.Fatal(i, s, e)
		}
		if _, e := Stuck(s.x, s.r); e != api.ErrNone {
			t.Fatal(i, s, e)
		}
	}
	if tested < 100 {
		t.Fatal("too few texts:", tested)
	}
}

func TestAllP2_8(t *testing.T) {
	for i, s := range smalls() {
		all := s.all
		n, e := Count(s.x, s.r)
		list, f := List(s.x, s.r, 0, 500)
		if e != api.OK || f != api.OK || n != min(500, len(all)) || !sameFillings(list, all[:n]) {
			t.Fatal(i, s, n, list, len(all), e, f)
		}
		for _, filling := range all {
			if e := Fits(s.x, s.r, filling); e != api.OK {
				t.Fatal(i, s, filling, e)
			}
		}
	}
}

// TestFitsP2_8 asks Fits of fillings that are nearly right.
func TestFitsP2_8(t *testing.T) {
	r := rand.New(rand.NewSource(8))
	right, wrong := 0, 0
	for i, s := range smalls() {
		all := s.all
		for _, f := range all[:min(20, len(all))] {
			f = filling(slices.Clone(f.Words), slices.Clone(f.Fills)...)
			switch k := r.Intn(3); {
			case k == 0 && len(f.Fills) > 1:
				f.Fills[0]++
				f.Fills[1]--
			case k == 1 && len(f.Fills) > 0:
				f.Fills[r.Intn(len(f.Fills))] += r.Intn(3) - 1
			default:
				f.Words[r.Intn(len(f.Words))] = r.Intn(len(s.x.Words))
			}
			want := api.ErrClash
			if hasFilling(all, f) {
				want = api.OK
				right++
			} else {
				wrong++
			}
			if e := Fits(s.x, s.r, f); e != want {
				t.Fatal(i, s, f, e, want)
			}
		}
	}
	if right < 50 || wrong < 50 {
		t.Fatal("too few fillings:", right, wrong)
	}
}

func TestSharedP2_9(t *testing.T) {
	several := 0
	for i, s := range smalls() {
		all := s.all
		shared, e := Shared(s.x, s.r)
		switch {
		case len(all) == 0:
			if e != api.ErrNone || shared != nil {
				t.Fatal(i, s, shared, e)
			}
			continue
		case len(all) > 500:
			if e != api.ErrMany || shared != nil {
				t.Fatal(i, s, shared, e)
			}
			continue
		case e != api.OK || len(shared) != len(s.r):
			t.Fatal(i, s, shared, e)
		}
		if len(all) > 1 {
			several++
		}
		for c := range s.r {
			var column []string
			for _, f := range all {
				column = append(column, cellsOf(s.r, textOf(s.x, f), f.Fills)[c])
			}
			if want := commonOf(s.r[c], column); shared[c] != want {
				t.Fatal(i, s, c, shared[c], want)
			}
		}
	}
	if several < 50 {
		t.Fatal("too few rows with several fillings:", several)
	}
}

func textOf(x api.Lexicon, f api.Filling) string {
	text := ""
	for _, w := range f.Words {
		text += x.Words[w].Text
	}
	return text
}

// commonOf says of all texts of a cell what they share, by trying all that may be shared, from the longest on.
func commonOf(c api.Cell, texts []string) api.Common {
	var common api.Common
	if !c.Gap {
		for letter := 'A'; letter <= 'Z'; letter++ {
			if slices.Contains(texts, string(letter)) {
				common.Letters += string(letter)
			}
		}
		return common
	}
	for n := 10; n >= 0; n-- {
		if first := texts[0]; n <= len(first) {
			if head := first[:n]; common.Head == "" && !slices.ContainsFunc(texts, func(s string) bool { return !strings.HasPrefix(s, head) }) {
				common.Head = head
			}
			if tail := first[len(first)-n:]; common.Tail == "" && !slices.ContainsFunc(texts, func(s string) bool { return !strings.HasSuffix(s, tail) }) {
				common.Tail = tail
			}
		}
	}
	short := func(a, b string) int { return len(a) - len(b) }
	common.Many = span(len(slices.MinFunc(texts, short)), len(slices.MaxFunc(texts, short)))
	return common
}

func TestOutsideP2_10(t *testing.T) {
	for i, s := range smalls() {
		all := s.all
		for _, f := range all[:min(30, len(all))] {
			text, e := Print(s.x, s.r, f)
			if e != api.OK || strings.NewReplacer("[", "", "]", "", " ", "").Replace(text) != textOf(s.x, f) {
				t.Fatal(i, s, f, text, e)
			}
			var words []string
			for _, w := range f.Words {
				words = append(words, s.x.Words[w].Text)
			}
			if strings.NewReplacer("[", "", "]", "").Replace(text) != strings.Join(words, " ") {
				t.Fatal(i, s, f, text)
			}
			// A gap is as long as it is here, so that the letters outside can be told apart.
			want, got := "", ""
			for c, letters := range cellsOf(s.r, textOf(s.x, f), f.Fills) {
				if s.r[c].Gap || len(s.r[c].Letters) != 1 {
					want += strings.Repeat("*", len(letters))
				} else {
					want += s.r[c].Letters
				}
			}
			inside := false
			for _, c := range text {
				switch {
				case c == '[' || c == ']':
					if inside == (c == '[') {
						t.Fatal(i, s, f, text)
					}
					inside = c == '['
				case c != ' ' && inside:
					got += "*"
				case c != ' ':
					got += string(c)
				}
			}
			if got != want || inside {
				t.Fatal(i, s, f, text, got, want)
			}
			for _, pair := range []string{"][", "] [", "[]", "[ ", " ]"} {
				if strings.Contains(text, pair) {
					t.Fatal(i, s, f, text)
				}
			}
		}
	}
}

// wider returns rows and lexicons of which more may be true.
func wider(s small, r *rand.Rand) []small {
	var list []small
	for c := range s.r {
		row := slices.Clone(s.r)
		if row[c].Gap {
			row[c].Width = span(max(0, row[c].Width.Low-1), row[c].Width.High)
			list = append(list, small{x: s.x, r: slices.Clone(row)})
			row[c].Width.High++
		} else if letters := lettersOf(row[c].Letters) | 1<<r.Intn(26); row[c].Letters != "" {
			row[c].Letters = letters.text()
		}
		list = append(list, small{x: s.x, r: row})
		if !row[c].Gap {
			row = slices.Clone(row)
			row[c].Letters = ""
			list = append(list, small{x: s.x, r: row})
		}
	}
	for letter := range 4 {
		x := s.x
		x.Widths = slices.Clone(x.Widths)
		x.Widths[letter] = span(max(1, x.Widths[letter].Low-1), x.Widths[letter].High+1)
		list = append(list, small{x: x, r: s.r})
	}
	return list
}

func TestDamageP2_11(t *testing.T) {
	r := rand.New(rand.NewSource(11))
	compared := 0
	for i, s := range smalls() {
		list, _ := List(s.x, s.r, 0, 500)
		for _, more := range wider(s, r) {
			n, e := Count(more.x, more.r)
			all, _ := List(more.x, more.r, 0, 500)
			for _, f := range list {
				compared++
				if e != api.OK || n < 500 && !hasFilling(all, f) || Fits(more.x, more.r, f) != api.OK {
					t.Fatal(i, s, more, f, e)
				}
			}
		}
	}
	if compared < 1000 {
		t.Fatal("too few fillings:", compared)
	}
}

func TestStuckP2_12(t *testing.T) {
	stuck := map[int]int{}
	for i, s := range smalls() {
		n, e := Stuck(s.x, s.r)
		if len(s.all) > 0 {
			if n != 0 || e != api.ErrNone {
				t.Fatal(i, s, n, e)
			}
			continue
		}
		if e != api.OK || n < 0 || n > len(s.r) || n > 0 && !begins(s.x, s.r[:n]) || n < len(s.r) && begins(s.x, s.r[:n+1]) {
			t.Fatal(i, s, n, e)
		}
		if stuck[min(n, 2)]++; n == len(s.r) {
			stuck[-1]++
		}
	}
	if min(stuck[-1], stuck[0], stuck[1], stuck[2]) < 5 {
		t.Fatal("too few rows:", stuck)
	}
}

func TestWindowsP2_13(t *testing.T) {
	for i, s := range append(slices.Clone(smalls()[:30]), small{x: free("A", "B", "C"), r: squares("......")}) {
		all, e := List(s.x, s.r, 0, 500)
		n, f := Count(s.x, s.r)
		if e != api.OK || f != api.OK || n != len(all) {
			t.Fatal(i, s, n, len(all), e, f)
		}
		for _, size := range []int{1, 7, 100, 499, 500} {
			if size == 1 && n > 100 {
				continue
			}
			var joined []api.Filling
			for from := 0; from <= 500; from += size {
				piece, e := List(s.x, s.r, from, size)
				if e != api.OK || len(piece) != max(0, min(size, n-from)) {
					t.Fatal(i, s, from, size, len(piece), e)
				}
				joined = append(joined, piece...)
			}
			if !sameFillings(all, joined) {
				t.Fatal(i, s, size, all, joined)
			}
		}
	}
}

func TestWordsP2_14(t *testing.T) {
	compared := 0
	for i, s := range smalls() {
		last := len(s.x.Words) - 1
		less := s.x
		less.Words = s.x.Words[:last]
		all := s.all
		if len(all) > 500 {
			continue
		}
		want := slices.DeleteFunc(slices.Clone(all), func(f api.Filling) bool { return slices.Contains(f.Words, last) })
		compared += len(want)
		if list, e := List(less, s.r, 0, 500); e != api.OK || !sameFillings(list, want) {
			t.Fatal(i, s, list, want, e)
		}
	}
	if compared < 100 {
		t.Fatal("too few fillings:", compared)
	}
}

func TestRowsP2_15(t *testing.T) {
	for i, s := range smalls() {
		text, e := Write(s.r)
		r, at, f := Read(text)
		if e != api.OK || f != api.OK || at != 0 || !slices.Equal(r, s.r) {
			t.Fatal(i, s.r, text, r, at, e, f)
		}
		if again, e := Write(r); e != api.OK || again != text {
			t.Fatal(i, text, again, e)
		}
	}
}

// lights returns a line that was cut with letters of a hand and seen in some lights.
func lights(r *rand.Rand, text string) api.Line {
	l := api.Line{Hands: []api.Hand{{}}, Worn: 1, Scratched: 1}
	for i, letter := range []byte("ABCD") {
		l.Hands[0].Shapes = append(l.Hands[0].Shapes, api.Shape{Letter: letter, Strokes: []int{7, 3, 12, 5}[i]})
	}
	for _, letter := range text {
		strokes := l.Hands[0].Shapes[letter-'A'].Strokes
		if r.Intn(3) == 0 {
			strokes &= strokes - 1
			l.Total++
		}
		shows := r.Intn(16)
		l.Squares = append(l.Squares, []api.Light{{Shows: shows, Seen: shows & strokes}})
	}
	return l
}

func TestSeenT6(t *testing.T) {
	r := rand.New(rand.NewSource(6))
	x := free("A", "BA", "DAC", "CAB", "BB")
	for i := range 300 {
		words := []int{r.Intn(5), r.Intn(5)}
		true := filling(words)
		l := lights(r, textOf(x, true))
		fit, e := sight.Letters(l)
		if e != api.OK {
			t.Fatal(i, l, e)
		}
		var row []api.Cell
		for _, letters := range fit {
			row = append(row, api.Cell{Letters: letters})
		}
		list, _ := List(x, row, 0, 500)
		shared, e := Shared(x, row)
		if e != api.OK || !hasFilling(list, true) {
			t.Fatal(i, l, row, list, e)
		}
		for c := range shared {
			if strings.Trim(shared[c].Letters, fit[c]) != "" {
				t.Fatal(i, l, row, shared)
			}
		}
		text, e := Print(x, row, true)
		outside := ""
		for part := range strings.SplitSeq(text, "[") {
			_, after, closed := strings.Cut(part, "]")
			if !closed {
				after = part
			}
			outside += strings.ReplaceAll(after, " ", "")
		}
		alone := strings.Join(slices.DeleteFunc(slices.Clone(fit), func(s string) bool { return len(s) != 1 }), "")
		if e != api.OK || outside != alone {
			t.Fatal(i, l, row, text, outside, alone, e)
		}
	}
}
