package stemma

import (
	"math/rand"
	"slices"
	"strings"
	"testing"

	"cippus/api"
	"cippus/gap"
)

// all returns all that the functions say of a tradition; false if they do not agree on the error.
func all(l []api.Copy) (said, api.Errno) {
	var s said
	var errors [5]api.Errno
	s.sources, errors[0] = Sources(l)
	s.letters, errors[1] = Letters(l)
	s.print, errors[2] = Print(l)
	s.fewest, errors[3] = Fewest(l)
	for a := range l {
		var on []int
		for b := range l {
			var v int
			v, errors[4] = Depends(l, a, b)
			on = append(on, v)
		}
		s.depends = append(s.depends, on)
	}
	if e := errors[0]; e == api.OK || slices.Max(errors[:]) != e || slices.Min(errors[:]) != e {
		return s, slices.Max(errors[:])
	}
	return said{}, errors[0]
}

func (s said) same(other said) bool {
	return same(s.sources, other.sources) && same(s.depends, other.depends) && slices.Equal(s.letters, other.letters) && s.print == other.print && s.fewest == other.fewest
}

// agrees reports whether a verdict may be right if something truly is so, or not.
func agrees(verdict int, so bool) bool {
	return verdict == api.Open || (verdict == api.Yes) == so && (verdict == api.No) == !so
}

// holds reports whether a truth is as it is said.
func (s said) holds(l []api.Copy, w fact) bool {
	errors := 0
	for a, n := range w.errors(l) {
		errors += n
		for source := range a + 1 {
			if !agrees(s.sources[a][source], w.from[a] == source-1) {
				return false
			}
		}
		for b := range l {
			if !agrees(s.depends[a][b], w.depends(a, b)) {
				return false
			}
		}
	}
	for place, letter := range w.stone {
		if !strings.ContainsRune(s.letters[place], letter) || s.print[place] != '-' && rune(s.print[place]) != letter {
			return false
		}
	}
	return s.fewest <= errors
}

func TestTrueP7_5(t *testing.T) {
	r := rand.New(rand.NewSource(5))
	sure, sureLetters, exact := 0, 0, 0
	for i := range 3000 {
		l, w := trueTradition(r)
		s, e := all(l)
		if e != api.OK || !s.holds(l, w) {
			t.Fatal(i, l, w, s, e)
		}
		for _, verdicts := range s.sources[1:] {
			if !slices.Contains(verdicts, api.Open) {
				sure++
			}
		}
		sureLetters += len(strings.ReplaceAll(s.print, "-", ""))
		errors := 0
		for _, n := range w.errors(l) {
			errors += n
		}
		if s.fewest == errors && errors > 0 {
			exact++
		}
	}
	if sure < 500 || sureLetters < 1000 || exact < 500 {
		t.Fatal("too little is sure:", sure, sureLetters, exact)
	}
}

func TestAllP7_6(t *testing.T) {
	may, open, clashing := 0, 0, 0
	for i, s := range smalls() {
		got, e := all(s.l)
		switch {
		case e == api.OK && s.truths > 0:
			may++
		case e == api.ErrClash && s.truths == 0:
			clashing++
		default:
			t.Fatal(i, s.l, s.truths, e)
		}
		if !got.same(s.all) {
			t.Fatal(i, s.l, got, s.all)
		}
		if strings.Contains(s.all.print, "-") {
			open++
		}
	}
	if may < 1000 || open < 500 || clashing < 1000 {
		t.Fatal("not enough of each sort:", may, open, clashing)
	}
}

// TestManyPlacesP7_6 has more places, and copies that leave the stone little room.
func TestManyPlacesP7_6(t *testing.T) {
	r := rand.New(rand.NewSource(66))
	may, several, clashing := 0, 0, 0
	for i := 0; may < 300; i++ {
		places := 4 + r.Intn(api.MaxPlaces-3)
		first := strings.Repeat("A", places)
		l := of(saw(first, r.Intn(2)))
		for range 1 + r.Intn(api.MaxCopies-1) {
			text := []byte(first)
			errors := r.Perm(places)[:1+r.Intn(4)]
			for _, place := range errors {
				text[place] = abc[1+r.Intn(2)]
			}
			l = append(l, api.Copy{Text: string(text), Errors: max(0, min(len(errors)-r.Intn(2), api.MaxErrors)), Saw: r.Intn(5) > 0})
		}
		s := smallOf(l)
		got, e := all(l)
		if !got.same(s.all) || (e == api.OK) != (s.truths > 0) {
			t.Fatal(i, l, got, s.all, e)
		}
		if e != api.OK {
			clashing++
			continue
		}
		may++
		if slices.ContainsFunc(s.all.letters, func(letters string) bool { return len(letters) > 1 && len(letters) < 26 }) {
			several++
		}
	}
	if several < 20 || clashing < 20 {
		t.Fatal("not enough of each sort:", several, clashing)
	}
}

// TestNoCopyP7_6 has letters that no copy has: if one of them may be on the stone, all 26 may.
func TestNoCopyP7_6(t *testing.T) {
	r := rand.New(rand.NewSource(67))
	sorts := map[bool]int{}
	for i := range 2000 {
		l, _ := trueTradition(r)
		letters, e := Letters(l)
		for place, fit := range letters {
			copies := ""
			for _, c := range l {
				copies += c.Text[place : place+1]
			}
			every := fit == abc
			sorts[every]++
			if e != api.OK || !every && strings.Trim(fit, copies) != "" {
				t.Fatal(i, l, letters, e)
			}
		}
	}
	if sorts[true] < 500 || sorts[false] < 500 {
		t.Fatal("not enough of each sort:", sorts)
	}
}

// each shows traditions that may be, small and large ones, and what is said of them.
func each(t *testing.T, seed int64, show func(l []api.Copy, s said)) {
	t.Helper()
	r := rand.New(rand.NewSource(seed))
	for range 1000 {
		l, _ := trueTradition(r)
		s, e := all(l)
		if e != api.OK {
			t.Fatal(l, e)
		}
		show(l, s)
	}
	for _, s := range smalls()[:1500] {
		if s.truths > 0 {
			show(s.l, s.all)
		}
	}
}

func TestProvedP7_7(t *testing.T) {
	proved, unseen := map[int]int{}, map[int]int{}
	each(t, 7, func(l []api.Copy, s said) {
		for a, c := range l {
			for b := range a {
				differ := 0
				for place := range len(c.Text) {
					if c.Text[place] != l[b].Text[place] {
						differ++
					}
				}
				if (s.sources[a][b+1] != api.No) != (differ <= c.Errors) {
					t.Fatal(l, a, b, s)
				}
			}
			left := slices.DeleteFunc(slices.Clone(s.sources[a]), func(v int) bool { return v == api.No })
			if (len(left) == 1) != slices.Contains(left, api.Yes) || len(left) == 0 {
				t.Fatal(l, a, s)
			}
			proved[len(left)]++
			if c.Saw {
				continue
			}
			var on []int
			for b, other := range l {
				if other.Saw && s.depends[a][b] != api.No {
					on = append(on, s.depends[a][b])
				}
			}
			if len(on) == 0 || len(on) == 1 && on[0] != api.Yes || s.sources[a][0] != api.No {
				t.Fatal(l, a, s)
			}
			unseen[min(len(on), 2)]++
		}
	})
	if proved[1] < 1000 || proved[2] < 500 || unseen[1] < 200 || unseen[2] < 200 {
		t.Fatal("too few copies:", proved, unseen)
	}
}

// TestUnseenP7_7 goes through all truths: a copyist who did not see the stone depends in each of them on somebody who did.
func TestUnseenP7_7(t *testing.T) {
	truths := 0
	for i, s := range smalls()[:1000] {
		if len(s.l[0].Text) > 2 {
			continue
		}
		eachTruth(s.l, func(w fact) {
			for a, c := range s.l {
				if !c.Saw {
					truths++
					if !slices.ContainsFunc(indices(s.l), func(b int) bool { return s.l[b].Saw && w.depends(a, b) && s.all.depends[a][b] != api.No }) {
						t.Fatal(i, s.l, w)
					}
				}
			}
		})
	}
	if truths < 1000 {
		t.Fatal("too few truths:", truths)
	}
}

func indices(l []api.Copy) []int {
	var list []int
	for i := range l {
		list = append(list, i)
	}
	return list
}

func TestAgreedP7_8(t *testing.T) {
	whole, places := 0, 0
	each(t, 8, func(l []api.Copy, s said) {
		for a, c := range l {
			if c.Errors > 0 || s.sources[a][0] != api.Yes {
				continue
			}
			whole++
			if s.print != c.Text || strings.Join(s.letters, "") != c.Text {
				t.Fatal(l, a, s)
			}
			for place := range s.letters {
				letter := c.Text[place]
				if slices.ContainsFunc(l, func(c api.Copy) bool { return c.Text[place] != letter }) {
					continue
				}
				places++
				if s.letters[place] != string(rune(letter)) || s.print[place] != letter {
					t.Fatal(l, place, s)
				}
			}
		}
	})
	if whole < 200 || places < 200 {
		t.Fatal("too few copies:", whole, places)
	}
}

// within reports whether verdicts that are sure are the same in what is told with more.
func within(before, after [][]int) bool {
	return slices.EqualFunc(before, after, func(b, a []int) bool {
		return slices.EqualFunc(b, a, func(v, w int) bool { return v == api.Open || v == w })
	})
}

// fewer reports whether no letter is added.
func fewer(before, after []string) bool {
	return slices.EqualFunc(before, after, func(b, a string) bool { return strings.Trim(a, b) == "" })
}

// stricter returns traditions with fewer errors of a copy, or with a copyist who surely did not see the stone.
func stricter(l []api.Copy) [][]api.Copy {
	var list [][]api.Copy
	for i, c := range l {
		for errors := range c.Errors {
			less := slices.Clone(l)
			less[i].Errors = errors
			list = append(list, less)
		}
		if c.Saw {
			less := slices.Clone(l)
			less[i].Saw = false
			list = append(list, less)
		}
	}
	return list
}

func TestMoreP7_9(t *testing.T) {
	changed, letters, more, clashing := 0, 0, 0, 0
	each(t, 9, func(l []api.Copy, s said) {
		for _, less := range stricter(l) {
			after, e := all(less)
			if e == api.ErrClash {
				clashing++
				continue
			}
			if e != api.OK || !within(s.sources, after.sources) || !within(s.depends, after.depends) || !fewer(s.letters, after.letters) || after.fewest < s.fewest {
				t.Fatal(l, less, s, after, e)
			}
			if !same(s.sources, after.sources) {
				changed++
			}
			if !slices.Equal(s.letters, after.letters) {
				letters++
			}
			if after.fewest > s.fewest {
				more++
			}
		}
	})
	if changed < 1000 || letters < 500 || more < 50 || clashing < 500 {
		t.Fatal("not enough of each sort:", changed, letters, more, clashing)
	}
}

// exchanged returns a text with the letters of each place exchanged, and the places in another order.
func exchanged(text string, letters [][]int, order []int) string {
	made := make([]byte, len(text))
	for place, from := range order {
		made[place] = abc[letters[from][text[from]-'A']]
	}
	return string(made)
}

func TestTurnedP7_10(t *testing.T) {
	r := rand.New(rand.NewSource(100))
	open := 0
	each(t, 10, func(l []api.Copy, s said) {
		order := r.Perm(len(l[0].Text))
		var letters [][]int
		for range order {
			letters = append(letters, r.Perm(len(abc)))
		}
		turned := slices.Clone(l)
		for i, c := range l {
			turned[i].Text = exchanged(c.Text, letters, order)
		}
		want := s
		want.letters, want.print = nil, ""
		for _, from := range order {
			var list []string
			for _, letter := range []byte(s.letters[from]) {
				list = append(list, string(abc[letters[from][letter-'A']]))
			}
			slices.Sort(list)
			want.letters = append(want.letters, strings.Join(list, ""))
			if len(list) == 1 {
				want.print += list[0]
			} else {
				want.print += "-"
			}
			if len(list) > 1 && len(list) < len(abc) {
				open++
			}
		}
		if got, e := all(turned); e != api.OK || !got.same(want) {
			t.Fatal(l, turned, got, want, e)
		}
	})
	if open < 200 {
		t.Fatal("too few places:", open)
	}
}

func TestOneCopyMoreP7_11(t *testing.T) {
	r := rand.New(rand.NewSource(11))
	stones, letters, errors := 0, 0, 0
	for i := range 3000 {
		l, w := trueTradition(r)
		if len(l) == api.MaxCopies {
			continue
		}
		source := r.Intn(len(l)+1) - 1
		more, true := oneMore(r, l, w, source, 4)
		s, e := all(l)
		after, f := all(more)
		if e != api.OK || f != api.OK || !after.holds(more, true) || !fewer(s.letters, after.letters) || after.fewest < s.fewest {
			t.Fatal(i, l, more, s, after, e, f)
		}
		if source < 0 {
			stones++
		}
		if !slices.Equal(s.letters, after.letters) {
			letters++
		}
		if after.fewest > s.fewest {
			errors++
		}
	}
	if stones < 500 || letters < 150 || errors < 500 {
		t.Fatal("not enough of each sort:", stones, letters, errors)
	}
}

func TestListsP7_12(t *testing.T) {
	r := rand.New(rand.NewSource(12))
	for i := range 3000 {
		l, _ := trueTradition(r)
		if i%2 == 0 {
			l = smalls()[i].l
		}
		text, e := Write(l)
		read, row, f := Read(text)
		if e != api.OK || f != api.OK || row != 0 || !slices.Equal(read, l) {
			t.Fatal(i, l, text, read, row, e, f)
		}
		if again, e := Write(read); again != text || e != api.OK {
			t.Fatal(i, text, again, e)
		}
	}
}

// lexicon has a text in two parts as its first words, and some other words; any word may follow any other one.
func lexicon(r *rand.Rand, text string) (api.Lexicon, api.Filling) {
	x := api.Lexicon{First: []bool{true}, Last: []bool{true}, Next: [][]bool{{true}}, Widths: slices.Repeat([]api.Span{{Low: 1, High: 9}}, 26)}
	cut := 1 + r.Intn(len(text))
	f := api.Filling{}
	add := func(word string) int {
		i := slices.IndexFunc(x.Words, func(w api.Word) bool { return w.Text == word })
		if i < 0 {
			i = len(x.Words)
			x.Words = append(x.Words, api.Word{Text: word})
		}
		return i
	}
	for _, part := range []string{text[:cut], text[cut:]} {
		if part != "" {
			f.Words = append(f.Words, add(part))
		}
	}
	for range r.Intn(5) {
		other := []byte(text)
		other[r.Intn(len(other))] = letterOf(r, 26)
		add(string(other))
	}
	return x, f
}

func TestCopiedT3(t *testing.T) {
	r := rand.New(rand.NewSource(3))
	outside, inside := 0, 0
	for i := range 3000 {
		l, w := trueTradition(r)
		letters, e := Letters(l)
		text, f := Print(l)
		if e != api.OK || f != api.OK {
			t.Fatal(i, l, e, f)
		}
		var row []api.Cell
		for _, fit := range letters {
			if fit == abc && i%2 == 0 {
				fit = "" // a square that shows nothing
			}
			row = append(row, api.Cell{Letters: fit})
		}
		x, filling := lexicon(r, w.stone)
		if e := gap.Fits(x, row, filling); e != api.OK {
			t.Fatal(i, l, w, row, filling, e)
		}
		all, e := gap.List(x, row, 0, api.MaxListed)
		if e != api.OK || !slices.ContainsFunc(all, func(f api.Filling) bool { return slices.Equal(f.Words, filling.Words) }) {
			t.Fatal(i, l, w, row, all, e)
		}
		printed, e := gap.Print(x, row, filling)
		place, open := 0, false
		for _, sign := range printed {
			switch {
			case sign == '[' || sign == ']':
				open = sign == '['
			case sign != ' ':
				if open != (text[place] == '-') || byte(sign) != w.stone[place] || !open && byte(sign) != text[place] {
					t.Fatal(i, l, w, text, printed)
				}
				if place++; open {
					inside++
				} else {
					outside++
				}
			}
		}
		if e != api.OK || place != len(text) {
			t.Fatal(i, l, w, text, printed, e)
		}
	}
	if outside < 1000 || inside < 1000 {
		t.Fatal("not enough of each sort:", outside, inside)
	}
}
