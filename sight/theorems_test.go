package sight

import (
	"math/rand"
	"reflect"
	"slices"
	"strings"
	"testing"

	"cippus/api"
)

func TestTrueP1_5(t *testing.T) {
	r := rand.New(rand.NewSource(5))
	for i := range 400 {
		l, hand, letters := smallLine(r)
		hands, e := Hands(l)
		squares, f := Letters(l)
		years, g := Years(l)
		if e != api.OK || f != api.OK || g != api.OK || !slices.Contains(hands, hand) {
			t.Fatal(i, l, hand, hands, e, f, g)
		}
		for s := range squares {
			if !strings.Contains(squares[s], letters[s:s+1]) {
				t.Fatal(i, l, letters, squares)
			}
		}
		if own := l.Hands[hand].Years; years.Low > own.Low || years.High < own.High {
			t.Fatal(i, l, years, own)
		}
	}
}

func TestAllTruthsP1_6(t *testing.T) {
	for i, l := range smallLines(400) {
		all := truths(l)
		sure := within(all, l.Total)
		want := api.OK
		if len(sure) == 0 {
			want = api.ErrClash
		}
		hands, e := Hands(l)
		squares, f := Letters(l)
		years, g := Years(l)
		if e != want || f != want || g != want {
			t.Fatal(i, l, e, f, g, want)
		}
		if want == api.OK && (!slices.Equal(hands, handsOf(sure)) || !slices.Equal(squares, lettersOf(sure, len(l.Squares))) || years != yearsOf(l, handsOf(sure))) {
			t.Fatal(i, l, hands, squares, years)
		}
		fewest := 1000
		for _, w := range all {
			fewest = min(fewest, w.marks)
		}
		marks, e := Marks(l)
		if len(all) == 0 && (marks != 0 || e != api.ErrClash) || len(all) > 0 && (marks != fewest || e != api.OK) {
			t.Fatal(i, l, marks, e, fewest)
		}
	}
}

func yearsOf(l api.Line, hands []int) api.Span {
	years := l.Hands[hands[0]].Years
	for _, h := range hands {
		years.Low, years.High = min(years.Low, l.Hands[h].Years.Low), max(years.High, l.Hands[h].Years.High)
	}
	return years
}

func TestSureP1_7(t *testing.T) {
	for i, l := range smallLines(400) {
		sure := within(truths(l), l.Total)
		text, e := Print(l)
		if len(sure) == 0 {
			if text != "" || e != api.ErrClash {
				t.Fatal(i, l, text, e)
			}
			continue
		}
		for _, letters := range lettersOf(sure, len(l.Squares)) {
			printed := "-"
			if len(letters) == 1 {
				printed = letters
			} else if len(letters) < 4 {
				printed = "{" + letters + "}"
			}
			rest, begins := strings.CutPrefix(text, printed)
			if !begins {
				t.Fatal(i, l, text, letters)
			}
			text = rest
		}
		if text != "" || e != api.OK {
			t.Fatal(i, l, text, e)
		}
	}
}

// narrower returns lines of which no more may be true than of l.
func narrower(l api.Line, r *rand.Rand) []api.Line {
	var list []api.Line
	add := func(change func(l *api.Line)) {
		n := cloned(l)
		change(&n)
		list = append(list, n)
	}
	add(func(l *api.Line) { l.Total-- })
	add(func(l *api.Line) { l.Worn-- })
	add(func(l *api.Line) { l.Scratched-- })
	for h := range l.Hands {
		add(func(l *api.Line) { l.Hands = slices.Delete(l.Hands, h, h+1) })
	}
	for s := range l.Squares {
		shows := r.Intn(1024)
		seen := shows & r.Intn(1024)
		add(func(l *api.Line) { l.Squares[s] = append(l.Squares[s], api.Light{Shows: shows, Seen: seen}) })
		add(func(l *api.Line) { l.Squares[s] = append(l.Squares[s], api.Light{Shows: 1 << (shows % 10)}) })
	}
	return list
}

func TestOneMoreLightP1_8(t *testing.T) {
	r := rand.New(rand.NewSource(8))
	compared := 0
	for i, l := range smallLines(400) {
		squares, e := Letters(l)
		for _, n := range narrower(l, r) {
			fewer, f := Letters(n)
			if f != api.OK {
				continue
			}
			if e != api.OK {
				t.Fatal(i, l, n, e)
			}
			compared++
			for s := range fewer {
				if strings.Trim(fewer[s], squares[s]) != "" {
					t.Fatal(i, l, n, squares, fewer)
				}
			}
		}
	}
	if compared < 100 {
		t.Fatal("too few lines remain possible:", compared)
	}
}

func TestEitherWayP1_9(t *testing.T) {
	for i, l := range smallLines(400) {
		squares, e := Letters(l)
		hands, _ := Hands(l)
		marks, _ := Marks(l)
		turned := cloned(l)
		for _, lights := range turned.Squares {
			slices.Reverse(lights)
		}
		slices.Reverse(turned.Hands)
		slices.Reverse(turned.Squares)
		got, f := Letters(turned)
		slices.Reverse(got)
		if e != f || !slices.Equal(squares, got) {
			t.Fatal(i, l, squares, got, e, f)
		}
		gotHands, _ := Hands(turned)
		slices.Reverse(gotHands)
		for k, h := range gotHands {
			gotHands[k] = len(l.Hands) - 1 - h
		}
		gotMarks, _ := Marks(turned)
		if !slices.Equal(hands, gotHands) || marks != gotMarks {
			t.Fatal(i, l, hands, gotHands, marks, gotMarks)
		}
	}
}

func TestEnoughP1_10(t *testing.T) {
	for i, l := range smallLines(400) {
		marks, e := Marks(l)
		_, f := Hands(l)
		if may := e == api.OK && marks <= l.Total; may != (f == api.OK) {
			t.Fatal(i, l, marks, e, f)
		}
		if e != api.OK {
			continue
		}
		just := slices.DeleteFunc(truths(l), func(w truth) bool { return w.marks != marks })
		l.Total = marks
		squares, g := Letters(l)
		hands, h := Hands(l)
		if g != api.OK || h != api.OK || !slices.Equal(hands, handsOf(just)) || !slices.Equal(squares, lettersOf(just, len(l.Squares))) {
			t.Fatal(i, l, squares, hands, g, h)
		}
		if l.Total--; l.Total >= 0 {
			if _, f := Letters(l); f != api.ErrClash {
				t.Fatal(i, l, f)
			}
		}
	}
}

func TestLookedP1_11(t *testing.T) {
	for i, l := range smallLines(400) {
		sure := within(truths(l), l.Total)
		square, rest, e := Look(l)
		if len(sure) == 0 {
			if square != 0 || rest != 0 || e != api.ErrClash {
				t.Fatal(i, l, square, rest, e)
			}
			continue
		}
		var rests []int
		for s, letters := range lettersOf(sure, len(l.Squares)) {
			most := 0
			for k := range len(letters) {
				most = max(most, restOf(sure, len(l.Squares), s, letters[k]))
			}
			rests = append(rests, most)
		}
		best := slices.Min(rests)
		if e != api.OK || rest != best || square != slices.Index(rests, best) {
			t.Fatal(i, l, square, rest, rests, e)
		}
	}
}

func TestSheetsP1_12(t *testing.T) {
	for i, l := range append(smallLines(400), example(), lit(1), greatest(), smallest()) {
		text, e := Write(l)
		read, row, f := Read(text)
		if e != api.OK || row != 0 || f != api.OK || !sameLine(l, read) {
			t.Fatal(i, l, text, read, row, e, f)
		}
		if again, e := Write(read); e != api.OK || again != text {
			t.Fatal(i, again, text, e)
		}
	}
}

// sameLine compares lines; a nil slice is as an empty one.
func sameLine(a, b api.Line) bool {
	for _, l := range []*api.Line{&a, &b} {
		l.Squares = slices.Clone(l.Squares)
		for i, lights := range l.Squares {
			l.Squares[i] = append([]api.Light{}, lights...)
		}
	}
	return reflect.DeepEqual(a, b)
}
