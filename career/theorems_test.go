package career

import (
	"math/rand"
	"reflect"
	"slices"
	"testing"

	"cippus/api"
	"cippus/date"
)

// has reports whether a number is within a span.
func has(s api.Span, n int) bool { return s.Low <= n && n <= s.High }

// inside reports whether each span is within the one of the same place.
func inside(inner, outer []api.Span) bool {
	for i := range inner {
		if !has(outer[i], inner[i].Low) || !has(outer[i], inner[i].High) {
			return false
		}
	}
	return len(inner) == len(outer)
}

func (l lives) inside(outer lives) bool {
	return inside(l.born, outer.born) && inside(l.died, outer.died) && inside(l.when, outer.when)
}

func (l lives) same(other lives) bool {
	return slices.Equal(l.born, other.born) && slices.Equal(l.died, other.died) && slices.Equal(l.when, other.when)
}

// holds reports whether a truth is within what is said.
func (l lives) holds(w truth) bool {
	return lives{spread(nil, w.born, true), spread(nil, w.died, true), spread(nil, w.when, true)}.inside(l)
}

// tell returns all that is said of the years of a roll.
func tell(r api.Roll) (lives, api.Errno) {
	born, died, e := Lives(r)
	when, f := Years(r)
	if e != f {
		return lives{}, -1
	}
	return lives{born, died, when}, e
}

// same returns of each two men whether they may be one; nil if the roll may not be.
func same(r api.Roll) [][]bool {
	var list [][]bool
	for a := range r.Men {
		list = append(list, make([]bool, len(r.Men)))
		for b := range r.Men {
			is, e := Same(r, a, b)
			if a != b && e != api.OK {
				return nil
			}
			list[a][b] = is
		}
	}
	return list
}

func TestTrueP6_5(t *testing.T) {
	r := rand.New(rand.NewSource(5))
	records, parents := 0, 0
	for i := range 1500 {
		x, w := trueRoll(r)
		all, e := tell(x)
		wrong, f := Wrong(x)
		if e != api.OK || f != api.OK || wrong != nil || !all.holds(w) {
			t.Fatal(i, x, w, all, e, wrong, f)
		}
		for k, rec := range x.Records {
			records++
			if rec.Kin {
				parents++
			}
			if rec.Kin && all.when[k] != to(0, 0) {
				t.Fatal(i, x, all.when)
			}
		}
	}
	if records < 5000 || parents < 300 {
		t.Fatal("too few records:", records, parents)
	}
}

// TestOneManP6_5 has a man whose stones are put down as those of two men: these may be one.
func TestOneManP6_5(t *testing.T) {
	r := rand.New(rand.NewSource(55))
	split := 0
	for i := range 1500 {
		x, w := trueRoll(r)
		if len(x.Men) == api.MaxMen {
			continue
		}
		a, b := r.Intn(len(x.Men)), len(x.Men)
		x.Men = append(x.Men, api.Man{Name: x.Men[a].Name, Born: wider(r, w.born[a], 9), Died: wider(r, w.died[a], 9)})
		for k, rec := range x.Records {
			if rec.Man == a && r.Intn(2) == 0 {
				x.Records[k].Man = b
				split++
			} else if rec.Kin && rec.Child == a && r.Intn(2) == 0 {
				x.Records[k].Child = b
				split++
			}
		}
		is, e := Same(x, a, b)
		back, f := Same(x, b, a)
		if !is || !back || e != api.OK || f != api.OK {
			t.Fatal(i, x, w, a, b, is, back, e, f)
		}
	}
	if split < 500 {
		t.Fatal("too few records are split:", split)
	}
}

func TestAllP6_6(t *testing.T) {
	may, records, clashing := 0, 0, 0
	for i, s := range smalls() {
		all, e := tell(s.r)
		switch {
		case e == api.OK && s.may:
			may++
			records += len(s.r.Records)
		case e == api.ErrClash && !s.may:
			clashing++
		default:
			t.Fatal(i, s.r, s.may, e)
		}
		if !all.same(s.all) {
			t.Fatal(i, s.r, all, s.all)
		}
	}
	if may < 400 || records < 600 || clashing < 400 {
		t.Fatal("not enough of each sort:", may, records, clashing)
	}
}

// TestManyRecordsP6_6 has many records of one man, whose years leave each other little room.
func TestManyRecordsP6_6(t *testing.T) {
	r := rand.New(rand.NewSource(66))
	sorts := map[bool]int{}
	for i := range 2000 {
		x := api.Roll{Offices: []api.Office{{Again: 1 + r.Intn(4)}, {Age: r.Intn(3), Gap: r.Intn(3), Again: 1 + r.Intn(4)}}, Life: 3 + r.Intn(8), Parents: to(1, 1), Far: apartAll(1 + r.Intn(4)), Men: []api.Man{{Born: to(-1, 0), Died: to(5, 7)}}}
		for range 4 + r.Intn(3) {
			low := r.Intn(5)
			x.Records = append(x.Records, held(0, r.Intn(3)-1, r.Intn(len(x.Far)), low, low+r.Intn(5)))
		}
		s := smallOf(x)
		sorts[s.may]++
		if all, e := tell(x); !all.same(s.all) || (e == api.OK) != s.may {
			t.Fatal(i, x, all, s, e)
		}
	}
	if sorts[true] < 100 || sorts[false] < 100 {
		t.Fatal("not enough of each sort:", sorts)
	}
}

// narrowings returns the roll with one span narrower by a year, wherever it can be.
func narrowings(r api.Roll) []api.Roll {
	var list []api.Roll
	narrowed := func(spanOf func(r *api.Roll) *api.Span) {
		for _, end := range []api.Span{to(1, 0), to(0, -1)} {
			c := cloned(r)
			s := spanOf(&c)
			s.Low += end.Low
			s.High += end.High
			if s.Low <= s.High {
				list = append(list, c)
			}
		}
	}
	narrowed(func(r *api.Roll) *api.Span { return &r.Parents })
	for man := range r.Men {
		narrowed(func(r *api.Roll) *api.Span { return &r.Men[man].Born })
		narrowed(func(r *api.Roll) *api.Span { return &r.Men[man].Died })
	}
	for i, rec := range r.Records {
		if !rec.Kin {
			narrowed(func(r *api.Roll) *api.Span { return &r.Records[i].When })
		}
	}
	return list
}

func TestNarrowerP6_7(t *testing.T) {
	compared, narrower := 0, 0
	for _, s := range smalls()[:2000] {
		for _, x := range narrowings(s.r) {
			all, e := tell(x)
			if e != api.OK && e != api.ErrClash || e == api.OK && !s.may || e == api.OK && !all.inside(s.all) {
				t.Fatal(s, x, all, e)
			}
			if e == api.OK {
				compared++
			}
			if e == api.OK && !all.same(s.all) {
				narrower++
			}
		}
	}
	if compared < 2000 || narrower < 1000 {
		t.Fatal("too few may be:", compared, narrower)
	}
}

func TestOneRecordMoreP6_7(t *testing.T) {
	r := rand.New(rand.NewSource(7))
	compared, narrower := 0, 0
	for i := range 3000 {
		x, w := trueRoll(r)
		rec, _, ok := trueRecord(r, x, w, 9)
		if !ok || len(x.Records) == api.MaxRecords {
			continue
		}
		compared++
		before, _ := tell(x)
		after, e := tell(more(x, rec))
		if e != api.OK {
			t.Fatal(i, x, w, rec, e)
		}
		after.when = after.when[:len(x.Records)]
		if !after.inside(before) {
			t.Fatal(i, x, rec, before, after)
		}
		if !after.same(before) {
			narrower++
		}
	}
	if compared < 500 || narrower < 200 {
		t.Fatal("too few records:", compared, narrower)
	}
}

func TestSameP6_8(t *testing.T) {
	verdicts := map[bool]int{}
	for i, s := range smalls() {
		for a := range s.r.Men {
			for b := range s.r.Men {
				is, e := Same(s.r, a, b)
				switch {
				case a == b && e == api.ErrTwice, a != b && !s.may && e == api.ErrClash:
					if is {
						t.Fatal(i, s.r, a, b)
					}
				case a == b || !s.may || e != api.OK || is != s.one(a, b):
					t.Fatal(i, s.r, a, b, is, e)
				case s.r.Men[a].Name == s.r.Men[b].Name:
					verdicts[is]++
				case is:
					t.Fatal(i, s.r, a, b)
				}
			}
		}
	}
	if verdicts[true] < 50 || verdicts[false] < 100 {
		t.Fatal("not enough of each verdict:", verdicts)
	}
}

func TestInEitherOrderP6_8(t *testing.T) {
	r := rand.New(rand.NewSource(8))
	ones := 0
	for i := range 800 {
		x, _ := trueRoll(r)
		for a := range x.Men {
			for b := range a {
				is, e := Same(x, a, b)
				back, f := Same(x, b, a)
				if is != back || e != api.OK || f != api.OK || is && x.Men[a].Name != x.Men[b].Name {
					t.Fatal(i, x, a, b, is, back, e, f)
				}
				if is {
					ones++
				}
			}
		}
	}
	if ones < 100 {
		t.Fatal("too few may be one:", ones)
	}
}

func TestFewestP6_9(t *testing.T) {
	sizes, clashing := [9]int{}, 0
	for i, s := range smalls() {
		wrong, e := Wrong(s.r)
		want, ok := s.wrong()
		if !slices.Equal(wrong, want) || ok != (e == api.OK) || !ok && e != api.ErrClash {
			t.Fatal(i, s.r, wrong, e, want, ok)
		}
		if !ok {
			clashing++
			continue
		}
		sizes[len(want)]++
		if _, e := tell(left(s.r, wrong)); e != api.OK {
			t.Fatal(i, s.r, wrong, e)
		}
	}
	if sizes[0] < 300 || sizes[1] < 100 || sizes[2] < 20 || sizes[3] < 1 || clashing < 50 {
		t.Fatal("not enough of each size:", sizes, clashing)
	}
}

// TestSpoiltP6_9 has a roll with two records that are spoilt: no more than these have to be wrong.
func TestSpoiltP6_9(t *testing.T) {
	r := rand.New(rand.NewSource(9))
	sizes := [3]int{}
	for i := range 1500 {
		x, w := trueRoll(r)
		for k := range min(2, len(x.Records)) {
			if !x.Records[k].Kin {
				x.Records[k].When = wider(r, w.when[k]+r.Intn(160)-80, 3)
			}
		}
		if Check(x) != api.OK {
			continue
		}
		wrong, e := Wrong(x)
		if e != api.OK || len(wrong) > 2 {
			t.Fatal(i, x, wrong, e)
		}
		sizes[len(wrong)]++
		if _, e := tell(left(x, wrong)); e != api.OK {
			t.Fatal(i, x, wrong, e)
		}
		for k := range x.Records {
			if _, e := tell(left(x, []int{k})); e == api.OK && (len(wrong) > 1 || len(wrong) == 1 && k < wrong[0]) {
				t.Fatal(i, x, wrong, k)
			}
		}
	}
	if slices.Min(sizes[:]) < 20 {
		t.Fatal("not enough of each size:", sizes)
	}
}

func later(spans []api.Span, by int) []api.Span {
	var moved []api.Span
	for _, s := range spans {
		moved = append(moved, to(s.Low+by, s.High+by))
	}
	return moved
}

// shifted returns the roll with all years later.
func shifted(r api.Roll, by int) api.Roll {
	r = cloned(r)
	for man, m := range r.Men {
		r.Men[man].Born, r.Men[man].Died = later([]api.Span{m.Born}, by)[0], later([]api.Span{m.Died}, by)[0]
	}
	for i, rec := range r.Records {
		if !rec.Kin {
			r.Records[i].When = later([]api.Span{rec.When}, by)[0]
		}
	}
	return r
}

func TestLaterP6_10(t *testing.T) {
	moved := 0
	for i, s := range smalls() {
		wrong, e := Wrong(s.r)
		for _, by := range []int{1, -1, 7, 500, -500, 2900, -2900} {
			x := shifted(s.r, by)
			if Check(x) != api.OK {
				continue
			}
			moved++
			all, f := tell(x)
			want := lives{later(s.all.born, by), later(s.all.died, by), later(s.all.when, by)}
			for k, rec := range s.r.Records {
				if s.may && rec.Kin {
					want.when[k] = to(0, 0)
				}
			}
			if !all.same(want) || (f == api.OK) != s.may || !reflect.DeepEqual(same(x), same(s.r)) {
				t.Fatal(i, s.r, by, all, want, f)
			}
			if list, g := Wrong(x); !slices.Equal(list, wrong) || g != e {
				t.Fatal(i, s.r, by, list, wrong, g, e)
			}
		}
	}
	if moved < 3000 {
		t.Fatal("too few are moved:", moved)
	}
}

func TestOrderP6_11(t *testing.T) {
	r := rand.New(rand.NewSource(11))
	for i := range 1200 {
		x, _ := trueRoll(r)
		if i%2 == 0 {
			x = smalls()[i].r
		}
		order := r.Perm(len(x.Records))
		mixed := cloned(x)
		all, e := tell(x)
		want := lives{all.born, all.died, slices.Clone(all.when)}
		for place, k := range order {
			mixed.Records[place] = x.Records[k]
			if e == api.OK {
				want.when[place] = all.when[k]
			}
		}
		got, f := tell(mixed)
		if !got.same(want) || e != f || !reflect.DeepEqual(same(mixed), same(x)) {
			t.Fatal(i, x, mixed, got, want, e, f)
		}
		wrong, g := Wrong(x)
		if list, h := Wrong(mixed); len(list) != len(wrong) || g != h {
			t.Fatal(i, x, mixed, list, wrong, g, h)
		}
	}
}

// mildings returns the roll with one thing milder: an age, a gap, years until an office is held again, lives, or two towns.
func mildings(r api.Roll) []api.Roll {
	var list []api.Roll
	milder := func(may bool, change func(r *api.Roll)) {
		if may {
			c := cloned(r)
			change(&c)
			list = append(list, c)
		}
	}
	for i, o := range r.Offices {
		milder(o.Age > 0, func(r *api.Roll) { r.Offices[i].Age-- })
		milder(o.Age > 0, func(r *api.Roll) { r.Offices[i].Age = 0 })
		milder(o.Gap > 0, func(r *api.Roll) { r.Offices[i].Gap-- })
		milder(o.Gap > 0, func(r *api.Roll) { r.Offices[i].Gap = 0 })
		milder(o.Again > 1, func(r *api.Roll) { r.Offices[i].Again-- })
	}
	milder(r.Life < api.MaxAge, func(r *api.Roll) { r.Life++ })
	milder(true, func(r *api.Roll) { r.Life = api.MaxAge })
	for a := range r.Far {
		for b := range a {
			milder(r.Far[a][b], func(r *api.Roll) { r.Far[a][b], r.Far[b][a] = false, false })
		}
	}
	return list
}

func TestMilderP6_12(t *testing.T) {
	changed, fewer := 0, 0
	for i, s := range smalls()[:2000] {
		wrong, e := Wrong(s.r)
		for _, x := range mildings(s.r) {
			all, f := tell(x)
			if s.may && (f != api.OK || !s.all.inside(all)) {
				t.Fatal(i, s.r, x, all, s.all, f)
			}
			if f == api.OK && !all.same(s.all) {
				changed++
			}
			list, g := Wrong(x)
			if e == api.OK && (g != api.OK || len(list) > len(wrong)) {
				t.Fatal(i, s.r, x, list, wrong, g)
			}
			if e == api.OK && len(list) < len(wrong) {
				fewer++
			}
		}
	}
	if changed < 200 || fewer < 50 {
		t.Fatal("too few are changed:", changed, fewer)
	}
}

func TestRegestsP6_13(t *testing.T) {
	r := rand.New(rand.NewSource(13))
	for i := range 1500 {
		x, _ := trueRoll(r)
		if i%2 == 0 {
			x = smalls()[i].r
		}
		text, e := Write(x)
		read, line, f := Read(text)
		if e != api.OK || f != api.OK || line != 0 || !reflect.DeepEqual(read, x) {
			t.Fatal(i, x, text, read, line, e, f)
		}
		if again, e := Write(read); again != text || e != api.OK {
			t.Fatal(i, text, again, e)
		}
	}
}

// trueNote returns a note on the years of stones that is right.
func trueNote(r *rand.Rand, years []int) api.Note {
	stone, other := r.Intn(len(years)), r.Intn(len(years))
	year := years[stone]
	switch s := wider(r, year, 30); {
	case r.Intn(3) == 0:
		list := []int{s.Low, year, s.High}
		slices.Sort(list)
		return api.Note{Kind: api.NoteYears, Stone: stone, Years: slices.Compact(list)}
	case stone != other && r.Intn(2) == 0:
		return api.Note{Kind: api.NoteAfter, Stone: stone, Other: other, Span: wider(r, year-years[other], 20)}
	default:
		return api.Note{Kind: api.NoteSpan, Stone: stone, Span: s}
	}
}

// dated returns the roll whose records, but those of kin, are of the years of the stones of a dating.
func dated(t *testing.T, r api.Roll, d api.Dating) api.Roll {
	t.Helper()
	years, e := date.Years(d)
	if e != api.OK {
		t.Fatal(d, e)
	}
	r = cloned(r)
	stone := 0
	for i, rec := range r.Records {
		if !rec.Kin {
			r.Records[i].When = years[stone]
			stone++
		}
	}
	return r
}

func TestDatedT7(t *testing.T) {
	r := rand.New(rand.NewSource(77))
	noted, narrower := 0, 0
	for i := range 2500 {
		x, w := trueRoll(r)
		var years []int
		for k, rec := range x.Records {
			if !rec.Kin {
				years = append(years, w.when[k])
			}
		}
		if len(years) == 0 || len(years) > api.MaxStones {
			continue
		}
		d := api.Dating{Stones: len(years)}
		all, e := tell(dated(t, x, d))
		for range api.MaxNotes {
			if e != api.OK || !all.holds(w) {
				t.Fatal(i, x, w, d, all, e)
			}
			d.Notes = append(d.Notes, trueNote(r, years))
			after, f := tell(dated(t, x, d))
			if f != api.OK || !after.inside(all) {
				t.Fatal(i, x, d, all, after, f)
			}
			noted++
			if !slices.Equal(after.born, all.born) || !slices.Equal(after.died, all.died) {
				narrower++
			}
			all, e = after, f
		}
	}
	if noted < 5000 || narrower < 1000 {
		t.Fatal("not enough of each sort:", noted, narrower)
	}
}
