package date

import (
	"math/rand"
	"reflect"
	"slices"
	"testing"

	"cippus/api"
	"cippus/sight"
)

// has reports whether a number is within a span.
func has(s api.Span, n int) bool { return s.Low <= n && n <= s.High }

// inside reports whether each span is within the one of the same place.
func inside(inner, outer []api.Span) bool {
	for i := range inner {
		if !has(outer[i], inner[i].Low) || !has(outer[i], inner[i].High) {
			return false
		}
	}
	return len(inner) == len(outer)
}

// told is all that is said of a dating: which years its stones and the first ones of its eras have, and which stones are earlier than which.
type told struct {
	years, firsts []api.Span
	earlier       [][]int
	e             api.Errno
}

func tell(d api.Dating) told {
	var all told
	all.years, all.e = Years(d)
	all.firsts, _ = Firsts(d)
	if all.e != api.OK {
		return all
	}
	for a := range d.Stones {
		all.earlier = append(all.earlier, nil)
		for b := range d.Stones {
			v, _ := Earlier(d, a, b)
			all.earlier[a] = append(all.earlier[a], v)
		}
	}
	return all
}

func TestTrueP5_5(t *testing.T) {
	r := rand.New(rand.NewSource(1))
	for i := range 1200 {
		d, w := trueDating(r)
		all := tell(d)
		wrong, e := Wrong(d)
		if all.e != api.OK || e != api.OK || wrong != nil {
			t.Fatal(i, d, w, all, wrong, e)
		}
		for stone, year := range w.stones {
			v, e := Cut(d, stone, year)
			if !has(all.years[stone], year) || v == api.No || e != api.OK {
				t.Fatal(i, d, w, all.years, stone, v, e)
			}
			for other, year := range w.stones {
				if v := all.earlier[stone][other]; w.stones[stone] < year && v == api.No || w.stones[stone] >= year && v == api.Yes {
					t.Fatal(i, d, w, stone, other, v)
				}
			}
			if v, _ := Cut(d, stone, w.stones[0]); v == api.Yes && w.stones[0] != year {
				t.Fatal(i, d, w, stone)
			}
		}
		for era, first := range w.firsts {
			if !has(all.firsts[era], first) {
				t.Fatal(i, d, w, all.firsts)
			}
		}
	}
}

// spanIn returns the numbers from the least to the greatest one that a function tells of truths.
func spanIn(truths []truth, number func(w truth) int) api.Span {
	whole := to(number(truths[0]), number(truths[0]))
	for _, w := range truths {
		whole = to(min(whole.Low, number(w)), max(whole.High, number(w)))
	}
	return whole
}

// verdictOf returns what all truths say.
func verdictOf(truths []truth, so func(w truth) bool) int {
	some := slices.ContainsFunc(truths, so)
	switch {
	case !some:
		return api.No
	case slices.ContainsFunc(truths, func(w truth) bool { return !so(w) }):
		return api.Open
	}
	return api.Yes
}

func TestEndsP5_6(t *testing.T) {
	clashing, verdicts := 0, [2][4]int{}
	for i, s := range smalls() {
		all := tell(s.d)
		if len(s.truths) == 0 {
			clashing++
		}
		if (all.e == api.ErrClash) != (len(s.truths) == 0) || all.e != api.OK && all.e != api.ErrClash {
			t.Fatal(i, s.d, all, len(s.truths))
		}
		if all.e != api.OK {
			continue
		}
		for era := range s.d.Eras {
			if want := spanIn(s.truths, func(w truth) int { return w.firsts[era] }); all.firsts[era] != want {
				t.Fatal(i, s.d, all.firsts, era, want)
			}
		}
		for a := range s.d.Stones {
			if want := spanIn(s.truths, func(w truth) int { return w.stones[a] }); all.years[a] != want {
				t.Fatal(i, s.d, all.years, a, want)
			}
			for year := max(s.years.Low-2, -api.MaxYear); year <= min(s.years.High+2, api.MaxYear); year++ {
				want := verdictOf(s.truths, func(w truth) bool { return w.stones[a] == year })
				if v, e := Cut(s.d, a, year); v != want || e != api.OK {
					t.Fatal(i, s.d, a, year, v, want, e)
				}
				verdicts[0][want]++
			}
			for b := range s.d.Stones {
				want := verdictOf(s.truths, func(w truth) bool { return w.stones[a] < w.stones[b] })
				if all.earlier[a][b] != want {
					t.Fatal(i, s.d, a, b, all.earlier, want)
				}
				verdicts[1][want]++
			}
		}
	}
	if few := slices.Min(append(verdicts[0][1:], verdicts[1][1:]...)); clashing < 200 || len(smalls())-clashing < 200 || few < 100 {
		t.Fatal("not enough of each sort:", clashing, verdicts)
	}
}

// stays tests that what is said of a dating is no less sure than what was said of it before.
func stays(t *testing.T, before, d api.Dating) bool {
	t.Helper()
	was, is := tell(before), tell(d)
	if is.e != api.OK {
		return false
	}
	if !inside(is.years, was.years) || !inside(is.firsts, was.firsts) {
		t.Fatal(before, d, was, is)
	}
	for a := range d.Stones {
		for b := range d.Stones {
			if v := was.earlier[a][b]; v != api.Open && is.earlier[a][b] != v {
				t.Fatal(before, d, a, b, v, is.earlier[a][b])
			}
		}
		years := was.years[a]
		for _, year := range []int{years.Low, years.High, (years.Low + years.High) / 2, max(-api.MaxYear, years.Low-1), min(api.MaxYear, years.High+1)} {
			v, _ := Cut(before, a, year)
			if now, _ := Cut(d, a, year); v != api.Open && now != v {
				t.Fatal(before, d, a, year, v, now)
			}
		}
	}
	return true
}

// narrowings returns the dating with a year less, or a narrower span, wherever it can be.
func narrowings(d api.Dating) []api.Dating {
	var list []api.Dating
	narrowed := func(spanOf func(d *api.Dating) *api.Span) {
		for _, end := range []api.Span{to(1, 0), to(0, -1)} {
			c := cloned(d)
			s := spanOf(&c)
			s.Low += end.Low
			s.High += end.High
			if s.Low <= s.High {
				list = append(list, c)
			}
		}
	}
	for era := range d.Eras {
		narrowed(func(d *api.Dating) *api.Span { return &d.Eras[era] })
	}
	for i, n := range d.Notes {
		if n.Kind != api.NoteYears {
			narrowed(func(d *api.Dating) *api.Span { return &d.Notes[i].Span })
			continue
		}
		for k := 0; k < len(n.Years) && len(n.Years) > 1; k++ {
			c := cloned(d)
			c.Notes[i].Years = slices.Delete(c.Notes[i].Years, k, k+1)
			list = append(list, c)
		}
	}
	return list
}

func TestNarrowerP5_7(t *testing.T) {
	same := 0
	for _, s := range smalls()[:700] {
		for _, d := range narrowings(s.d) {
			if e := Check(d); e != api.OK {
				t.Fatal(s.d, d, e)
			}
			if len(s.truths) > 0 && stays(t, s.d, d) {
				same++
			}
		}
	}
	if same < 1000 {
		t.Fatal("too few may be:", same)
	}
}

func TestOneNoteMoreP5_7(t *testing.T) {
	r := rand.New(rand.NewSource(7))
	compared := 0
	for range 800 {
		d, w := trueDating(r)
		n, ok := trueNote(r, d, w)
		if ok && len(d.Notes) < api.MaxNotes {
			compared++
			if !stays(t, d, more(d, n)) {
				t.Fatal(d, w, n)
			}
		}
		if len(d.Notes) < api.MaxNotes {
			stone := r.Intn(d.Stones)
			year := w.stones[stone] + r.Intn(9) - 4
			if d := more(d, spanNote(stone, year, year+r.Intn(3))); Check(d) == api.OK {
				stays(t, without(d, []int{len(d.Notes) - 1}), d)
			}
		}
	}
	if compared < 300 {
		t.Fatal("too few notes:", compared)
	}
}

func later(s api.Span, by int) api.Span { return to(s.Low+by, s.High+by) }

func allLater(list []api.Span, by int) []api.Span {
	var moved []api.Span
	for _, s := range list {
		moved = append(moved, later(s, by))
	}
	return moved
}

// shifted returns the dating with all years later, eras and notes.
func shifted(d api.Dating, by int) api.Dating {
	d = cloned(d)
	d.Eras = allLater(d.Eras, by)
	for i, n := range d.Notes {
		for k := range n.Years {
			n.Years[k] += by
		}
		if n.Kind == api.NoteSpan {
			d.Notes[i].Span = later(n.Span, by)
		}
	}
	return d
}

func TestShiftedP5_8(t *testing.T) {
	r := rand.New(rand.NewSource(8))
	for i := range 300 {
		d := smallDating(r, 0)
		all := tell(d)
		wrong, _ := Wrong(d)
		for _, by := range []int{1, -1, 37, 900, 2980, -900} {
			moved := shifted(d, by)
			got := tell(moved)
			if list, e := Wrong(moved); got.e != all.e || e != api.OK || !slices.Equal(list, wrong) || !reflect.DeepEqual(got.earlier, all.earlier) || !slices.Equal(got.years, allLater(all.years, by)) || !slices.Equal(got.firsts, allLater(all.firsts, by)) {
				t.Fatal(i, d, by, all, got, wrong, list, e)
			}
			for year := -12; year <= 12 && all.e == api.OK; year++ {
				v, _ := Cut(d, 0, year)
				if w, e := Cut(moved, 0, year+by); v != w || e != api.OK {
					t.Fatal(i, d, by, year, v, w, e)
				}
			}
		}
	}
}

func turnedSpan(s api.Span) api.Span { return to(-s.High, -s.Low) }

// turned returns the dating with time turned round. A year of an era is none then; the dating may have no such notes.
func turned(d api.Dating) api.Dating {
	d = cloned(d)
	for i := range d.Eras {
		d.Eras[i] = turnedSpan(d.Eras[i])
	}
	for i, n := range d.Notes {
		d.Notes[i].Span = turnedSpan(n.Span)
		slices.Reverse(n.Years)
		for k := range n.Years {
			n.Years[k] = -n.Years[k]
		}
	}
	return d
}

func TestTurnedP5_8(t *testing.T) {
	r := rand.New(rand.NewSource(9))
	compared := 0
	for i := range 1500 {
		d, _ := trueDating(r)
		if i%2 == 0 {
			d = smallDating(r, []int{0, 30, 2995}[r.Intn(3)])
		}
		d.Notes = slices.DeleteFunc(d.Notes, func(n api.Note) bool { return n.Kind == api.NoteEra })
		all, back := tell(d), tell(turned(d))
		wrong, e := Wrong(d)
		if list, f := Wrong(turned(d)); all.e != back.e || !slices.Equal(wrong, list) || e != api.OK || f != api.OK {
			t.Fatal(i, d, all.e, back.e, wrong, list, e, f)
		}
		for a := range all.years {
			compared++
			if back.years[a] != turnedSpan(all.years[a]) {
				t.Fatal(i, d, all.years, back.years)
			}
			for b := range all.years {
				if back.earlier[a][b] != all.earlier[b][a] {
					t.Fatal(i, d, a, b, all.earlier, back.earlier)
				}
			}
		}
		for era := range all.firsts {
			if back.firsts[era] != turnedSpan(all.firsts[era]) {
				t.Fatal(i, d, all.firsts, back.firsts)
			}
		}
	}
	if compared < 2000 {
		t.Fatal("too few stones:", compared)
	}
}

func TestOrderP5_9(t *testing.T) {
	r := rand.New(rand.NewSource(10))
	chains := 0
	for i := range 1200 {
		d, _ := trueDating(r)
		if i%2 == 0 {
			d = smallDating(r, 0)
		}
		all := tell(d)
		for a, row := range all.earlier {
			for b, v := range row {
				if v == api.Yes && all.earlier[b][a] != api.No || a == b && v != api.No {
					t.Fatal(i, d, a, b, all.earlier)
				}
				for c := range all.earlier {
					if v != api.Yes || all.earlier[b][c] != api.Yes {
						continue
					}
					chains++
					if all.earlier[a][c] != api.Yes {
						t.Fatal(i, d, a, b, c, all.earlier)
					}
				}
			}
		}
		mixed := cloned(d)
		r.Shuffle(len(mixed.Notes), func(i, k int) { mixed.Notes[i], mixed.Notes[k] = mixed.Notes[k], mixed.Notes[i] })
		wrong, _ := Wrong(d)
		list, _ := Wrong(mixed)
		if got := tell(mixed); !reflect.DeepEqual(got, all) || len(list) != len(wrong) {
			t.Fatal(i, d, mixed, all, got, wrong, list)
		}
		for year := -5; year <= 5; year++ {
			v, e := Cut(d, 0, year)
			if w, f := Cut(mixed, 0, year); v != w || e != f {
				t.Fatal(i, d, mixed, year, v, w, e, f)
			}
		}
	}
	if chains < 300 {
		t.Fatal("too few stones are in order:", chains)
	}
}

func TestToldP5_10(t *testing.T) {
	looked := [4]int{}
	for i, s := range smalls()[:600] {
		if len(s.truths) == 0 || len(s.d.Notes) == api.MaxNotes {
			continue
		}
		for stone := range s.d.Stones {
			for year := max(s.years.Low, -api.MaxYear+1); year <= min(s.years.High, api.MaxYear-1); year++ {
				v, _ := Cut(s.d, stone, year)
				looked[v]++
				of, e := Years(more(s.d, yearsNote(stone, year)))
				_, f := Years(more(s.d, spanNote(stone, -api.MaxYear, year-1)))
				_, g := Years(more(s.d, spanNote(stone, year+1, api.MaxYear)))
				if (v != api.No) != (e == api.OK) || (v != api.Yes) != (f == api.OK || g == api.OK) {
					t.Fatal(i, s.d, stone, year, v, e, f, g)
				}
				if e == api.OK && of[stone] != to(year, year) {
					t.Fatal(i, s.d, stone, year, of)
				}
			}
			for other := range s.d.Stones {
				v, _ := Earlier(s.d, other, stone)
				_, e := Years(more(s.d, afterNote(stone, other, 1, api.MaxYear)))
				_, f := Years(more(s.d, afterNote(stone, other, -api.MaxYear, 0)))
				if stone != other && ((v != api.No) != (e == api.OK) || (v != api.Yes) != (f == api.OK)) {
					t.Fatal(i, s.d, stone, other, v, e, f)
				}
			}
		}
	}
	if slices.Min(looked[1:]) < 100 {
		t.Fatal("not enough of each verdict:", looked)
	}
}

func TestWrongP5_11(t *testing.T) {
	sizes := [9]int{}
	for i, s := range smalls() {
		wrong, e := Wrong(s.d)
		want := s.wrong()
		if e != api.OK || !slices.Equal(wrong, want) {
			t.Fatal(i, s.d, wrong, want, e)
		}
		sizes[len(want)]++
		if _, e := Years(without(s.d, wrong)); e != api.OK {
			t.Fatal(i, s.d, wrong, e)
		}
		if _, e := Years(s.d); (e == api.OK) != (len(wrong) == 0) {
			t.Fatal(i, s.d, wrong, e)
		}
	}
	if sizes[0] < 200 || sizes[1] < 100 || sizes[2] < 20 || sizes[3] < 1 {
		t.Fatal("not enough of each size:", sizes)
	}
}

// TestSpoiltP5_11 has a dating of all years in which two notes are spoilt: no more than these have to be wrong.
func TestSpoiltP5_11(t *testing.T) {
	r := rand.New(rand.NewSource(11))
	sizes := [3]int{}
	for i := range 1500 {
		d, _ := trueDating(r)
		for k := range min(2, len(d.Notes)) {
			d.Notes[k].Stone = r.Intn(d.Stones)
			d.Notes[k].Years = slices.Clone(d.Notes[k].Years)
		}
		if Check(d) != api.OK {
			continue
		}
		wrong, e := Wrong(d)
		if e != api.OK || len(wrong) > 2 {
			t.Fatal(i, d, wrong, e)
		}
		sizes[len(wrong)]++
		if _, e := Years(without(d, wrong)); e != api.OK {
			t.Fatal(i, d, wrong, e)
		}
		for note := range d.Notes {
			_, e := Years(without(d, []int{note}))
			if e == api.OK && (len(wrong) > 1 || len(wrong) == 1 && note < wrong[0]) {
				t.Fatal(i, d, wrong, note)
			}
		}
	}
	if slices.Min(sizes[:]) < 20 {
		t.Fatal("not enough of each size:", sizes)
	}
}

func TestTablesP5_12(t *testing.T) {
	r := rand.New(rand.NewSource(12))
	for i := range 1000 {
		d, _ := trueDating(r)
		if i%2 == 0 {
			d = smallDating(r, r.Intn(5900)-2950)
		}
		text, e := Write(d)
		read, row, f := Read(text)
		if e != api.OK || f != api.OK || row != 0 || !reflect.DeepEqual(tell(read), tell(d)) || read.Stones != d.Stones || !slices.Equal(read.Eras, d.Eras) || len(read.Notes) != len(d.Notes) {
			t.Fatal(i, d, text, read, row, e, f)
		}
		for k, n := range read.Notes {
			if !reflect.DeepEqual(n, d.Notes[k]) {
				t.Fatal(i, d, text, n)
			}
		}
		if again, e := Write(read); again != text || e != api.OK {
			t.Fatal(i, text, again, e)
		}
	}
}

// cutLine returns a line as it was seen, and a year in which the hand that truly cut it did so.
func cutLine(r *rand.Rand) (api.Line, int) {
	l := api.Line{Worn: r.Intn(2), Scratched: r.Intn(2), Total: r.Intn(3)}
	for range 1 + r.Intn(4) {
		low := r.Intn(400) - 200
		hand := api.Hand{Years: to(low, low+r.Intn(200))}
		for letter := range byte(1 + r.Intn(4)) {
			hand.Shapes = append(hand.Shapes, api.Shape{Letter: 'A' + letter, Strokes: 1 + r.Intn(15)})
		}
		l.Hands = append(l.Hands, hand)
	}
	hand := l.Hands[r.Intn(len(l.Hands))]
	for range 1 + r.Intn(4) {
		shows, strokes := r.Intn(16), hand.Shapes[r.Intn(len(hand.Shapes))].Strokes
		l.Squares = append(l.Squares, []api.Light{{Shows: shows, Seen: shows & strokes}})
	}
	return l, hand.Years.Low + r.Intn(hand.Years.High-hand.Years.Low+1)
}

// inLimits reports whether all years of a truth are years if they are so many years later.
func inLimits(w truth, by int) bool {
	return !slices.ContainsFunc(slices.Concat(w.stones, w.firsts), func(year int) bool { return !isYear(year + by) })
}

func TestLetteredT2(t *testing.T) {
	r := rand.New(rand.NewSource(2))
	dated, noted, narrower, contradicted := 0, 0, 0, 0
	for i := range 4000 {
		d, w := trueDating(r)
		line, year := cutLine(r)
		letters, e := sight.Years(line)
		if e != api.OK {
			t.Fatal(i, line, e)
		}
		if len(d.Notes) == api.MaxNotes {
			continue
		}
		stone := r.Intn(d.Stones)
		by := year - w.stones[stone]
		truly := i%2 == 0 && inLimits(w, by) && Check(shifted(d, by)) == api.OK
		if truly { // the stone truly was cut in that year
			d = shifted(d, by)
		}
		before, e := Years(d)
		if e != api.OK {
			t.Fatal(i, d, w, e)
		}
		d = more(d, spanNote(stone, letters.Low, letters.High))
		years, e := Years(d)
		if truly && (e != api.OK || !has(years[stone], year)) {
			t.Fatal(i, d, year, years, e)
		}
		if truly {
			dated++
		}
		if e == api.OK {
			noted++
			if !inside(years, before) {
				t.Fatal(i, d, before, years)
			}
			if !slices.Equal(years, before) {
				narrower++
			}
			continue
		}
		contradicted++
		if wrong, f := Wrong(d); e != api.ErrClash || f != api.OK || len(wrong) != 1 {
			t.Fatal(i, d, wrong, e, f)
		}
	}
	if dated < 500 || noted < 500 || narrower < 300 || contradicted < 300 {
		t.Fatal("not enough of each sort:", dated, noted, narrower, contradicted)
	}
}
