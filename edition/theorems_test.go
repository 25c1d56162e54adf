package edition

import (
	"math/rand"
	"reflect"
	"slices"
	"strings"
	"testing"
	"unicode"

	"cippus/api"
	"cippus/sight"
	"cippus/sums"
)

// eachLine shows all lists of at most so many signs of an alphabet. A list is the search's own: it changes afterwards.
func eachLine(alphabet []api.Sign, most int, found func(l []api.Sign)) {
	var next func(l []api.Sign)
	next = func(l []api.Sign) {
		found(l)
		for _, s := range alphabet {
			if len(l) < most {
				next(append(l, s))
			}
		}
	}
	next(make([]api.Sign, 0, most))
}

// TestBracketsP9_7 goes through all lines of few signs, and through all short texts.
func TestBracketsP9_7(t *testing.T) {
	lines := map[string][]api.Sign{}
	wrong := 0
	eachLine(append(of("sA dA lA l. g aA vA xA eA b f"), api.Sign{}, api.Sign{Kind: api.SignSure, Letter: '.'}, api.Sign{Kind: api.SignBlank, Letter: 'A'}), 5, func(l []api.Sign) {
		text, e := Print(l)
		if want := plainCheck(l); e != want || want != api.OK && text != "" {
			t.Fatal(l, text, e, want)
		}
		if e != api.OK {
			wrong++
			return
		}
		if want := plainPrint(l); text != want || lines[text] != nil || !isPrinted(text) {
			t.Fatal(l, text, want, lines[text])
		}
		lines[text] = slices.Clone(l)
		if read, e := Signs(text); e != api.OK || !slices.Equal(read, l) {
			t.Fatal(l, text, read, e)
		}
	})
	if len(lines) < 100000 || wrong < 300000 {
		t.Fatal("not enough of each sort:", len(lines), wrong)
	}
	const bytes = "A'.[]-<>() _#"
	right, texts := 0, 0
	var next func(text string)
	next = func(text string) {
		texts++
		line, e := Signs(text)
		if l := lines[text]; (e == api.OK) != (l != nil) || e != api.OK && e != api.ErrShape || !slices.Equal(line, l) || isPrinted(text) != (l != nil) {
			t.Fatalf("%q: %v %v, not %v", text, line, e, l)
		}
		if e == api.OK {
			right++
		}
		for i := range bytes {
			if len(text) < 5 {
				next(text + bytes[i:i+1])
			}
		}
	}
	next("")
	if texts < 400000 || right < 300 {
		t.Fatal("not enough of each sort:", texts, right)
	}
}

// TestLongBracketsP9_7 has lines of up to 24 signs, and their texts with some bytes changed.
func TestLongBracketsP9_7(t *testing.T) {
	r := rand.New(rand.NewSource(7))
	const bytes = "AZ'.[]-<>() _#{}a@\n\x00\xc3\xff"
	right, wrong, kind := 0, 0, [11]int{}
	for i := range 60000 {
		l := trueLine(r, 24)
		text, e := Print(l)
		read, f := Signs(text)
		if e != api.OK || f != api.OK || text != plainPrint(l) || !slices.Equal(read, l) {
			t.Fatal(i, l, text, read, e, f)
		}
		for _, s := range l {
			kind[s.Kind]++
		}
		for range 1 + r.Intn(2) {
			at := r.Intn(len(text))
			other := bytes[r.Intn(len(bytes)):][:1]
			switch r.Intn(4) {
			case 0:
				text = text[:at] + other + text[at+1:]
			case 1:
				text = text[:at] + other + text[at:]
			case 2:
				text = text[:at] + text[at+1:] + other
			default:
				until := at + 1 + r.Intn(min(4, len(text)-at))
				text = text[:at] + text[at:until] + text[at:]
			}
		}
		if len(text) > api.MaxPrinted {
			continue
		}
		read, e = Signs(text)
		if (e == api.OK) != isPrinted(text) || e != api.OK && (e != api.ErrShape || read != nil) {
			t.Fatalf("%d: %q: %v %v", i, text, read, e)
		}
		if e != api.OK {
			wrong++
			continue
		}
		right++
		if again, e := Print(read); e != api.OK || again != text {
			t.Fatalf("%d: %q: %q %v", i, text, again, e)
		}
	}
	if min(right, wrong) < 4000 || slices.Min(kind[1:]) < 10000 {
		t.Fatal("not enough of each sort:", right, wrong, kind)
	}
}

// lineOf returns what is said of a line; it has to be valid.
func lineOf(t *testing.T, l []api.Sign) (stone, words string, squares api.Span) {
	t.Helper()
	stone, e := Stone(l)
	words, f := Words(l)
	squares, g := Squares(l)
	if e != api.OK || f != api.OK || g != api.OK {
		t.Fatal(l, e, f, g)
	}
	return stone, words, squares
}

func TestThereP9_8(t *testing.T) {
	r := rand.New(rand.NewSource(8))
	cut, hidden := 0, 0
	for i := range 30000 {
		l := trueLine(r, 24)
		stone, words, squares := lineOf(t, l)
		if stone != plainStone(l) || words != plainWords(l) || squares != plainSquares(l) {
			t.Fatal(i, l, stone, words, squares)
		}
		gaps := strings.Count(stone, "-")
		if squares.Low != len(stone)-gaps || squares.High != squares.Low+gaps*api.MaxGap {
			t.Fatal(i, l, stone, squares)
		}
		for at, s := range l { // another letter of it changes nothing
			other := slices.Clone(l)
			other[at].Letter = 'Y'
			switch s.Kind {
			case api.SignAdded, api.SignSolved:
				if text, _, same := lineOf(t, other); text != stone || same != squares {
					t.Fatal(i, l, stone, text)
				}
				hidden++
			case api.SignExtra:
				if _, text, same := lineOf(t, other); text != words || same != squares {
					t.Fatal(i, l, words, text)
				}
				hidden++
			}
		}
		for at := 1; at < len(l); at++ {
			if plainCheck(l[:at]) != api.OK || plainCheck(l[at:]) != api.OK {
				continue
			}
			cut++
			s1, w1, n1 := lineOf(t, l[:at])
			s2, w2, n2 := lineOf(t, l[at:])
			if s1+s2 != stone || w1+w2 != words || n1.Low+n2.Low != squares.Low || n1.High+n2.High != squares.High {
				t.Fatal(i, l, at, stone, s1, s2, words, w1, w2)
			}
		}
	}
	if cut < 100000 || hidden < 30000 {
		t.Fatal("not enough of each sort:", cut, hidden)
	}
}

// concordOf returns the numbers of slabs in two books; these have to be books.
func concordOf(t *testing.T, d api.Edition, a, b int) [][]int {
	t.Helper()
	list, e := Concord(d, a, b)
	if e != api.OK {
		t.Fatal(d, a, b, e)
	}
	return list
}

func TestNumbersP9_9(t *testing.T) {
	r := rand.New(rand.NewSource(9))
	pairs, turned, shorter := 0, 0, 0
	for i := range 3000 {
		d := trueEdition(r, 3)
		found := 0
		for book := range d.Books {
			for number := 1; number <= api.MaxNumber; number++ {
				slab, e := Find(d, book, number)
				want := slices.IndexFunc(d.Slabs, func(s api.Slab) bool { return s.Numbers[book] == number })
				if (e == api.OK) != (want >= 0) || e == api.OK && slab != want || e != api.OK && (e != api.ErrNone || slab != 0) {
					t.Fatal(i, d, book, number, slab, e, want)
				}
				if e == api.OK {
					found++
				}
				if i >= 300 && number == 12 {
					break
				}
			}
		}
		for a := range d.Books {
			for b := range d.Books {
				list := concordOf(t, d, a, b)
				pairs += len(list)
				var want, back [][]int
				for n := 1; n <= api.MaxNumber; n++ {
					for _, s := range d.Slabs {
						if s.Numbers[a] == n && s.Numbers[b] != 0 {
							want = append(want, []int{n, s.Numbers[b]})
						}
					}
				}
				for _, p := range concordOf(t, d, b, a) {
					back = append(back, []int{p[1], p[0]})
				}
				if slices.SortFunc(back, slices.Compare[[]int]); !reflect.DeepEqual(list, back) || !reflect.DeepEqual(list, want) {
					t.Fatal(i, d, a, b, list, back, want)
				}
				if a != b && len(list) > 1 {
					turned++
				}
				for via := range d.Books {
					through := 0
					for _, p := range concordOf(t, d, a, via) {
						for _, q := range concordOf(t, d, via, b) {
							if p[1] == q[0] && !slices.ContainsFunc(list, func(l []int) bool { return l[0] == p[0] && l[1] == q[1] }) {
								t.Fatal(i, d, a, via, b, p, q, list)
							} else if p[1] == q[0] {
								through++
							}
						}
					}
					if through < len(list) {
						shorter++
					}
				}
			}
		}
	}
	if pairs < 10000 || turned < 2000 || shorter < 1000 {
		t.Fatal("not enough of each sort:", pairs, turned, shorter)
	}
}

// applied returns an edition after changes that have no error.
func applied(t *testing.T, d api.Edition, l ...api.Change) api.Edition {
	t.Helper()
	next, at, e := Apply(d, l)
	if at != 0 || e != api.OK {
		t.Fatal(d, l, at, e)
	}
	return next
}

// someChanges returns an edition, and changes of it.
func someChanges(r *rand.Rand) (api.Edition, []api.Change) {
	d := trueEdition(r, 10)
	for len(d.Slabs) == 0 {
		d = trueEdition(r, 10)
	}
	var l []api.Change
	for range 1 + r.Intn(6) {
		l = append(l, trueChange(r, d))
	}
	return d, l
}

// TestAllP9_4 compares Apply with a plain walk through each line; some of the changes have errors.
func TestAllP9_4(t *testing.T) {
	r := rand.New(rand.NewSource(4))
	told, late := [13]int{}, 0
	for i := range 25000 {
		d, l := someChanges(r)
		if i%3 == 0 {
			x := &l[r.Intn(len(l))]
			switch r.Intn(6) {
			case 0:
				x.Book = r.Intn(5) - 1
			case 1:
				x.Number = r.Intn(12) - 1
			case 2:
				x.Line = r.Intn(6) - 1
			case 3:
				x.From, x.Until = r.Intn(13)-1, r.Intn(13)-1
			case 4:
				x.Text = []string{"", "", "[", "A ", strings.Repeat("A", 24), strings.Repeat("A", 25), strings.Repeat("A", 121)}[r.Intn(7)]
			case 5:
				x.From, x.Until = 0, 24
			}
		}
		next, at, e := Apply(d, l)
		want, where, f := plainApply(d, l)
		if e != f || at != where || !reflect.DeepEqual(next, want) {
			t.Fatal(i, d, l, next, at, e, want, where, f)
		}
		if told[e]++; at > 0 {
			late++
		}
	}
	for _, e := range []api.Errno{api.OK, api.ErrBounds, api.ErrShape, api.ErrAbsent, api.ErrTwice, api.ErrSequence, api.ErrMany, api.ErrFew, api.ErrClash, api.ErrLong, api.ErrNone} {
		if told[e] < 50 || told[api.OK] < 5000 || told[api.ErrClash] < 3000 || late < 5000 {
			t.Fatal("not enough of each sort:", e, told, late)
		}
	}
}

func TestOnceP9_10(t *testing.T) {
	r := rand.New(rand.NewSource(10))
	right, wrong, together, untouched := 0, 0, 0, 0
	for i := range 10000 {
		d, l := someChanges(r)
		next, _, e := Apply(d, l)
		for range 3 {
			other := slices.Clone(l)
			r.Shuffle(len(other), func(i, k int) { other[i], other[k] = other[k], other[i] })
			if same, _, f := Apply(d, other); (f == api.OK) != (e == api.OK) || !reflect.DeepEqual(same, next) {
				t.Fatal(i, d, l, next, other, same, e, f)
			}
		}
		if e != api.OK {
			wrong++
			continue
		}
		right++
		type place struct{ slab, line int }
		byLine := map[place][]api.Change{}
		for _, c := range l {
			slab, _ := Find(d, c.Book, c.Number)
			byLine[place{slab, c.Line}] = append(byLine[place{slab, c.Line}], c)
		}
		one := copied(d)
		for _, list := range byLine { // in any order
			one = applied(t, one, list...)
			together = max(together, len(list))
		}
		if !reflect.DeepEqual(one, next) {
			t.Fatal(i, d, l, next, one)
		}
		for s := range d.Slabs {
			for line, text := range d.Slabs[s].Lines {
				if byLine[place{s, line}] == nil {
					untouched++
					if next.Slabs[s].Lines[line] != text {
						t.Fatal(i, d, l, next)
					}
				}
			}
			if !slices.Equal(next.Slabs[s].Numbers, d.Slabs[s].Numbers) {
				t.Fatal(i, d, l, next)
			}
		}
		if len(next.Slabs) != len(d.Slabs) || next.Books != d.Books {
			t.Fatal(i, d, l, next)
		}
	}
	if min(right, wrong) < 1500 || together < 4 || untouched < 5000 {
		t.Fatal("not enough of each sort:", right, wrong, together, untouched)
	}
}

// undoing returns the change that undoes one of some changes that were made together; false if the signs that it replaced are no line by themselves.
func undoing(d api.Edition, l []api.Change, k int) (api.Change, bool) {
	back := l[k]
	slab, _ := Find(d, back.Book, back.Number)
	old, _ := Signs(d.Slabs[slab].Lines[back.Line])
	put, _ := Signs(back.Text)
	shift := 0
	for _, c := range l { // those ahead of it have moved its place
		other, _ := Find(d, c.Book, c.Number)
		if other == slab && c.Line == back.Line && (c.From < l[k].From || c.From == l[k].From && c.Until < l[k].Until) {
			signs, _ := Signs(c.Text)
			shift += len(signs) - (c.Until - c.From)
		}
	}
	text, e := Print(old[back.From:back.Until])
	back.From += shift
	back.Until, back.Text = back.From+len(put), text
	return back, e == api.OK || l[k].From == l[k].Until
}

// TestUndoneP9_11 undoes one change of several, which must leave what the others make of the edition.
func TestUndoneP9_11(t *testing.T) {
	r := rand.New(rand.NewSource(11))
	putIn, takenOut, replaced, moved := 0, 0, 0, 0
	for i := range 30000 {
		d, l := someChanges(r)
		if i%3 == 0 {
			l = l[:1]
		}
		next, _, e := Apply(d, l)
		k := r.Intn(len(l))
		without, _, f := Apply(d, slices.Delete(slices.Clone(l), k, k+1))
		if e != api.OK || f != api.OK {
			continue
		}
		back, ok := undoing(d, l, k)
		if !ok {
			continue
		}
		if one := applied(t, next, back); !reflect.DeepEqual(one, without) || len(l) == 1 && !reflect.DeepEqual(one, d) {
			t.Fatal(i, d, l, k, next, back, one, without)
		}
		switch c := l[k]; {
		case c.From == c.Until:
			putIn++
		case c.Text == "":
			takenOut++
		default:
			replaced++
		}
		if back.From != l[k].From {
			moved++
		}
	}
	if min(putIn, takenOut, replaced, moved) < 500 {
		t.Fatal("not enough of each sort:", putIn, takenOut, replaced, moved)
	}
}

func TestRenumberedP9_12(t *testing.T) {
	r := rand.New(rand.NewSource(12))
	old, full := 0, 0
	for i := range 5000 {
		d := trueEdition(r, 6)
		next, e := Renumber(d)
		if d.Books == api.MaxBooks {
			if full++; e != api.ErrMany || !reflect.DeepEqual(next, api.Edition{}) {
				t.Fatal(i, d, next, e)
			}
			continue
		}
		if e != api.OK || CheckAll(next) != api.OK || next.Books != d.Books+1 || len(next.Slabs) != len(d.Slabs) {
			t.Fatal(i, d, next, e)
		}
		for s, slab := range d.Slabs {
			if !slices.Equal(next.Slabs[s].Lines, slab.Lines) {
				t.Fatal(i, d, next)
			}
			for book, number := range append(slices.Clone(slab.Numbers), s+1) {
				if found, e := Find(next, book, number); number != 0 && (found != s || e != api.OK) {
					t.Fatal(i, d, next, book, number, found, e)
				}
				old++
			}
		}
		for book := range d.Books {
			for number := 1; number < 20; number++ {
				first, e := Find(d, book, number)
				if second, f := Find(next, book, number); first != second || e != f {
					t.Fatal(i, d, next, book, number, first, second, e, f)
				}
			}
		}
		if _, e := Find(next, d.Books, len(d.Slabs)+1); e != api.ErrNone {
			t.Fatal(i, d, next, e)
		}
	}
	if old < 5000 || full < 1000 {
		t.Fatal("not enough of each sort:", old, full)
	}
}

func TestEditionsP9_13(t *testing.T) {
	r := rand.New(rand.NewSource(13))
	long, right := 0, 0
	for i := range 10000 {
		d := trueEdition(r, 24)
		text, e := Write(d)
		read, row, f := Read(text)
		if e != api.OK || f != api.OK || row != 0 || !reflect.DeepEqual(read, d) {
			t.Fatal(i, d, text, read, row, e, f)
		}
		long = max(long, len(text))
		bytes := []byte(text)
		bytes[r.Intn(len(bytes))] = "0123456789 :\nAslabeno[]'"[r.Intn(24)]
		read, row, e = Read(string(bytes))
		if e != api.OK {
			continue
		}
		right++
		if again, e := Write(read); again != string(bytes) || e != api.OK || row != 0 {
			t.Fatalf("%d: %q: %v %d %q %v", i, bytes, read, row, again, e)
		}
	}
	if long < 500 || right < 500 {
		t.Fatal("not enough of each sort:", long, right)
	}
}

// trueAccount returns an account that adds up, some signs of which are lost.
func trueAccount(r *rand.Rand) []api.Entry {
	var l []api.Entry
	all, sum := 0, 0
	for range 1 + r.Intn(4) {
		n := 1 + r.Intn([]int{9, 60, 400}[r.Intn(3)])
		all, sum = all+n, sum+n
		l = append(l, entry(api.EntryItem, n))
		if r.Intn(3) == 0 {
			l = append(l, entry(api.EntrySum, sum))
			sum = 0
		}
	}
	l = append(l, entry(api.EntryAll, all))
	for range r.Intn(api.MaxLost + 1) {
		e := &l[r.Intn(len(l))]
		at := r.Intn(len(e.Signs))
		e.Signs = e.Signs[:at] + "?" + e.Signs[at+1:]
	}
	return l
}

func entry(kind, n int) api.Entry {
	signs, _ := sums.Numeral(n)
	return api.Entry{Kind: kind, Signs: signs}
}

// asPrinted returns the line of an entry as sums.Print prints it: a small letter is restored, a question mark unknown.
func asPrinted(text string) []api.Sign {
	var l []api.Sign
	for _, letter := range text {
		switch {
		case letter == '?':
			l = append(l, of("l.")...)
		case letter >= 'a':
			l = append(l, api.Sign{Kind: api.SignLost, Letter: byte(letter - 'a' + 'A')})
		default:
			l = append(l, api.Sign{Kind: api.SignSure, Letter: byte(letter)})
		}
	}
	return l
}

// TestAccountsT4 prints accounts in editions, and reads them as they are there.
func TestAccountsT4(t *testing.T) {
	r := rand.New(rand.NewSource(4))
	restored, unknown, several := 0, 0, 0
	for i := range 3000 {
		l := trueAccount(r)
		if len(l) > api.MaxEntries {
			continue
		}
		many, e := sums.Count(l)
		printed, f := sums.Print(l)
		if e != api.OK || f != api.OK || many == 0 {
			t.Fatal(i, l, many, e, f)
		}
		d := api.Edition{Books: 1}
		for k, text := range printed {
			if k%api.MaxRows == 0 {
				d.Slabs = append(d.Slabs, slab([]int{k + 1}))
			}
			line, e := Print(asPrinted(text))
			if e != api.OK {
				t.Fatal(i, l, text, e)
			}
			last := &d.Slabs[len(d.Slabs)-1].Lines
			*last = append(*last, line)
			restored += len(strings.Join(strings.FieldsFunc(text, unicode.IsUpper), "")) - strings.Count(text, "?")
			unknown += strings.Count(text, "?")
		}
		written, e := Write(d)
		d, _, f = Read(written)
		if e != api.OK || f != api.OK {
			t.Fatal(i, l, written, e, f)
		}
		read, onStone := slices.Clone(l), slices.Clone(l)
		for k, text := range printed {
			line, e := Signs(d.Slabs[k/api.MaxRows].Lines[k%api.MaxRows])
			if e != api.OK || !slices.Equal(line, asPrinted(text)) {
				t.Fatal(i, l, text, line, e)
			}
			stone, words, squares := lineOf(t, line)
			read[k].Signs = strings.ReplaceAll(words, ".", "?")
			onStone[k].Signs = strings.ReplaceAll(stone, ".", "?")
			if squares.Low != len(l[k].Signs) || squares.High != squares.Low {
				t.Fatal(i, l, text, squares)
			}
		}
		if n, e := sums.Count(read); n != many || e != api.OK || !slices.Equal(onStone, l) {
			t.Fatal(i, l, printed, read, onStone, n, many, e)
		}
		if many > 1 {
			several++
		}
	}
	if min(restored, unknown, several) < 200 {
		t.Fatal("not enough of each sort:", restored, unknown, several)
	}
}

// seen is a line of letters as it was seen in lights, with the strokes that are visible in each square.
type seen struct {
	line    api.Line
	letters string
	visible []int
}

// light adds a light to a square.
func (s *seen) light(r *rand.Rand, square int) {
	shows := 63 &^ (1 << r.Intn(6)) &^ (1 << r.Intn(6))
	s.line.Squares[square] = append(s.line.Squares[square], api.Light{Shows: shows, Seen: shows & s.visible[square]})
}

// trueSeen returns a line that truly was cut by one of its hands.
func trueSeen(r *rand.Rand) seen {
	s := seen{line: api.Line{Worn: 1, Scratched: 1, Total: r.Intn(5)}}
	for range 1 + r.Intn(3) {
		var h api.Hand
		for letter := byte('A'); letter < 'A'+8; letter++ {
			h.Shapes = append(h.Shapes, api.Shape{Letter: letter, Strokes: 1 + r.Intn(63)})
		}
		s.line.Hands = append(s.line.Hands, h)
	}
	hand := s.line.Hands[r.Intn(len(s.line.Hands))]
	left := s.line.Total
	for square := range 1 + r.Intn(api.MaxSquares) {
		shape := hand.Shapes[r.Intn(len(hand.Shapes))]
		s.letters += string(rune(shape.Letter))
		visible := shape.Strokes
		if left > 0 && r.Intn(3) == 0 {
			visible ^= 1 << r.Intn(6) // one stroke is worn, or scratched
			left--
		}
		s.visible = append(s.visible, visible)
		s.line.Squares = append(s.line.Squares, nil)
		for range r.Intn(3) {
			s.light(r, square)
		}
	}
	return s
}

// asSeen returns how a line is printed in an edition: a letter alone if no other one fits, one of several with a mark that it has traces alone, or lost.
func asSeen(t *testing.T, r *rand.Rand, s seen) string {
	t.Helper()
	squares, e := sight.Letters(s.line)
	if e != api.OK {
		t.Fatal(s, e)
	}
	var l []api.Sign
	for _, letters := range squares {
		sign := api.Sign{Kind: api.SignDoubt, Letter: letters[r.Intn(len(letters))]}
		switch {
		case len(letters) == 1:
			sign.Kind = api.SignSure
		case len(letters) > 3:
			sign = of("l.")[0]
		}
		l = append(l, sign)
	}
	text, e := Print(l)
	if e != api.OK {
		t.Fatal(s, l, e)
	}
	return text
}

func TestLitT5(t *testing.T) {
	r := rand.New(rand.NewSource(5))
	sure, doubtful, found := 0, 0, 0
	for i := range 3000 {
		s := trueSeen(r)
		before := strings.Repeat(".", len(s.letters))
		for range 4 {
			line, e := Signs(asSeen(t, r, s))
			if e != api.OK || len(line) != len(s.letters) {
				t.Fatal(i, s, line, e)
			}
			stone, _, _ := lineOf(t, line)
			for k := range stone {
				stays := 'A' <= before[k] && before[k] <= 'Z'
				switch {
				case 'A' <= stone[k] && stone[k] <= 'Z':
					if sure++; stone[k] != s.letters[k] {
						t.Fatal(i, s, stone)
					}
					if !stays {
						found++
					}
				case stays:
					t.Fatal(i, s, before, stone)
				default:
					doubtful++
				}
			}
			before = stone
			if square := r.Intn(len(s.letters)); len(s.line.Squares[square]) < api.MaxLights {
				s.light(r, square)
			}
		}
	}
	if min(sure, doubtful, found) < 2000 {
		t.Fatal("not enough of each sort:", sure, doubtful, found)
	}
}
