package forge

import (
	"math/rand"
	"reflect"
	"slices"
	"testing"

	"cippus/api"
	"cippus/date"
)

// has reports whether a number is within a span.
func has(s api.Span, n int) bool { return s.Low <= n && n <= s.High }

func inside(inner, outer api.Span) bool { return has(outer, inner.Low) && has(outer, inner.High) }

// within reports whether all that is said of traits is within what is said of them elsewhere.
func within(inner, outer []api.Trait) bool {
	for i, t := range inner {
		if !inside(t.From, outer[i].From) || !inside(t.Until, outer[i].Until) || !inside(t.Known, outer[i].Known) {
			return false
		}
	}
	return len(inner) == len(outer)
}

// tell returns all that is said of a dossier.
func tell(d api.Dossier) (whole, api.Errno) {
	genuine, e := Genuine(d)
	shops, f := Shops(d)
	traits, g := Traits(d)
	if f != e || g != e {
		return whole{}, -1
	}
	return whole{genuine, shops, traits}, e
}

func (a whole) same(b whole) bool {
	return slices.Equal(a.genuine, b.genuine) && slices.Equal(a.shops, b.shops) && slices.Equal(a.traits, b.traits)
}

// so reports whether a verdict is right if something truly is so, or not.
func so(verdict int, truly bool) bool {
	if truly {
		return verdict == api.Yes || verdict == api.Open
	}
	return verdict == api.No || verdict == api.Open
}

// kept reports whether verdicts that are Yes or No stay.
func kept(before, after []int) bool {
	for i, verdict := range before {
		if verdict != api.Open && after[i] != verdict {
			return false
		}
	}
	return true
}

func TestTrueP8_6(t *testing.T) {
	r := rand.New(rand.NewSource(6))
	told, sorts := [4]int{}, map[bool]int{}
	for i := range 3000 {
		d, w := trueDossier(r)
		all, e := tell(d)
		if e != api.OK || len(all.genuine) != len(d.Cases) || len(all.shops) != d.Shops || len(all.traits) != len(d.Traits) {
			t.Fatal(i, d, w, all, e)
		}
		for c, forged := range w.forged {
			told[all.genuine[c]]++
			sorts[forged]++
			if !so(all.genuine[c], !forged) {
				t.Fatal(i, d, w, all, c)
			}
		}
		for shop, verdict := range all.shops {
			if !so(verdict, slices.Contains(w.sellers(d), shop)) {
				t.Fatal(i, d, w, all, shop)
			}
		}
		for k, years := range all.traits {
			if !has(years.From, w.first[k]) || !has(years.Until, w.last[k]) || !has(years.Known, w.known[k]) {
				t.Fatal(i, d, w, all, k)
			}
		}
	}
	if slices.Min(told[1:]) < 1000 || min(sorts[true], sorts[false]) < 1000 {
		t.Fatal("not enough of each sort:", told, sorts)
	}
}

func TestAllP8_7(t *testing.T) {
	clashing, told, narrower := 0, [2][4]int{}, [3]int{}
	for i, s := range smalls() {
		all, e := tell(s.d)
		if (e == api.OK) != s.may || e != api.OK && e != api.ErrClash || !all.same(s.all) {
			t.Fatal(i, s.d, s.may, s.all, all, e)
		}
		if !s.may {
			clashing++
		}
		for _, verdict := range all.genuine {
			told[0][verdict]++
		}
		for _, verdict := range all.shops {
			told[1][verdict]++
		}
		for k, years := range all.traits {
			for j, same := range []bool{years.From == s.d.Traits[k].From, years.Until == s.d.Traits[k].Until, years.Known == s.d.Traits[k].Known} {
				if !same {
					narrower[j]++
				}
			}
		}
	}
	if few := slices.Min(append(told[0][1:], told[1][1:]...)); clashing < 500 || few < 300 || slices.Min(narrower[:]) < 100 {
		t.Fatal("not enough of each sort:", clashing, told, narrower)
	}
}

// contradict reports whether no year is in both of two years of genuineness of a case, by all years.
func contradict(d api.Dossier, c api.Case, first, second int) bool {
	in := func(by, year int) bool {
		switch by {
		case api.TheClaim:
			return has(c.Cut, year)
		case api.TheSight:
			return year <= c.Seen.High
		}
		return year >= d.Traits[by].From.Low && year <= d.Traits[by].Until.High
	}
	for year := -api.MaxYear; year <= api.MaxYear; year++ {
		if in(first, year) && in(second, year) {
			return false
		}
	}
	return true
}

// witness returns what Why has to, by all pairs; false if there is none.
func witness(d api.Dossier, c api.Case) (first, second int, found bool) {
	by := append([]int{api.TheClaim, api.TheSight}, c.Shows...)
	for i := range by {
		for k := range i {
			better := !found || by[k] < first || by[k] == first && by[i] < second
			if better && contradict(d, c, by[k], by[i]) {
				first, second, found = by[k], by[i], true
			}
		}
	}
	return first, second, found
}

func TestConvictedP8_8(t *testing.T) {
	r := rand.New(rand.NewSource(88))
	var list []api.Dossier
	for i, s := range smalls() {
		list = append(list, s.d)
		if i%3 == 0 {
			d, _ := trueDossier(r)
			list = append(list, d)
		}
	}
	convicted, possible, known := 0, 0, 0
	for i, d := range list {
		all, told := tell(d)
		for k, c := range d.Cases {
			first, second, impossible := witness(d, c)
			a, b, e := Why(d, k)
			if a != first || b != second || (e == api.OK) != impossible || !impossible && e != api.ErrNone {
				t.Fatal(i, d, k, a, b, e, first, second)
			}
			if told != api.OK {
				continue
			}
			if (all.genuine[k] == api.No) != impossible {
				t.Fatal(i, d, k, all, first, second)
			}
			secrets, e := Knew(d, k)
			if e != api.OK || len(secrets) > 0 && all.genuine[k] != api.Yes {
				t.Fatal(i, d, k, all, secrets, e)
			}
			switch {
			case impossible:
				convicted++
			case len(secrets) > 0:
				known++
			default:
				possible++
			}
		}
	}
	if min(convicted, possible, known) < 1000 {
		t.Fatal("not enough of each sort:", convicted, possible, known)
	}
}

// narrowings returns the dossier with one span narrower by a year, wherever it can be, and with less of Most.
func narrowings(d api.Dossier) []api.Dossier {
	var list []api.Dossier
	narrowed := func(spanOf func(d *api.Dossier) *api.Span) {
		for _, end := range []api.Span{to(1, 0), to(0, -1)} {
			c := cloned(d)
			s := spanOf(&c)
			s.Low += end.Low
			s.High += end.High
			if s.Low <= s.High {
				list = append(list, c)
			}
		}
	}
	for i := range d.Traits {
		narrowed(func(d *api.Dossier) *api.Span { return &d.Traits[i].From })
		narrowed(func(d *api.Dossier) *api.Span { return &d.Traits[i].Until })
		narrowed(func(d *api.Dossier) *api.Span { return &d.Traits[i].Known })
	}
	for i := range d.Cases {
		narrowed(func(d *api.Dossier) *api.Span { return &d.Cases[i].Cut })
		narrowed(func(d *api.Dossier) *api.Span { return &d.Cases[i].Seen })
	}
	for most := range d.Most {
		c := cloned(d)
		c.Most = most
		list = append(list, c)
	}
	return list
}

// less counts what changes when more is known.
type less struct{ clashing, decided, narrower int }

// look counts what is said of a dossier of which more is known; it returns false if a verdict changes that was Yes or No, or years get wider.
func (l *less) look(before whole, after whole, e api.Errno) bool {
	if e == api.ErrClash {
		l.clashing++
		return true
	}
	if !slices.Equal(before.genuine, after.genuine[:len(before.genuine)]) || !slices.Equal(before.shops, after.shops) {
		l.decided++
	}
	if !slices.Equal(before.traits, after.traits) {
		l.narrower++
	}
	return e == api.OK && kept(before.genuine, after.genuine) && kept(before.shops, after.shops) && within(after.traits, before.traits)
}

func (l less) enough(n int) bool { return min(l.clashing, l.decided, l.narrower) >= n }

func TestNarrowerP8_9(t *testing.T) {
	r := rand.New(rand.NewSource(9))
	var l less
	for i, s := range smalls() {
		d := s.d
		if i%4 == 0 {
			d, _ = trueDossier(r)
		}
		before, e := tell(d)
		if e != api.OK {
			continue
		}
		for _, c := range narrowings(d) {
			after, e := tell(c)
			if !l.look(before, after, e) {
				t.Fatal(i, d, before, c, after, e)
			}
		}
	}
	if !l.enough(300) {
		t.Fatal("not enough of each sort:", l)
	}
}

// TestOneCaseMoreP8_9 has one case more. Nothing was asked of it before, and so its own shop, if it surely did not forge by the other cases, may have forged it.
func TestOneCaseMoreP8_9(t *testing.T) {
	var l less
	own := 0
	for i, s := range smalls() {
		last := len(s.d.Cases) - 1
		if last == 0 {
			continue
		}
		fewer := cloned(s.d)
		fewer.Cases = fewer.Cases[:last]
		before, e := tell(fewer)
		if e == api.ErrClash && s.may {
			t.Fatal(i, s.d)
		}
		if e != api.OK {
			continue
		}
		after, e := tell(s.d)
		if shop := s.d.Cases[last].Shop; e == api.OK && shop != ground && before.shops[shop] == api.No {
			own++
			before.shops[shop] = api.Open
		}
		if !l.look(before, after, e) {
			t.Fatal(i, s.d, before, after, e)
		}
	}
	if !l.enough(50) || own < 100 {
		t.Fatal("not enough of each sort:", l, own)
	}
}

func TestFewestP8_10(t *testing.T) {
	none, lengths := 0, [api.MaxShops + 1]int{}
	for i, s := range smalls() {
		want, _, found := s.fewest()
		list, e := Fewest(s.d)
		if !slices.Equal(list, want) || found != (e == api.OK) || !found && e != api.ErrClash {
			t.Fatal(i, s.d, list, e, want)
		}
		if !found {
			none++
		} else {
			lengths[len(list)]++
		}
		for most := range api.MaxShops + 1 {
			d := s.d
			d.Most = most
			if _, e := Genuine(d); (e == api.OK) != (found && len(list) <= most) {
				t.Fatal(i, d, list, e)
			}
			if again, f := Fewest(d); !slices.Equal(again, list) || f != e {
				t.Fatal(i, d, list, again, e, f)
			}
		}
	}
	if none < 300 || slices.Min(lengths[:4]) < 50 || lengths[4] < 5 {
		t.Fatal("not enough of each sort:", none, lengths)
	}
}

func TestApartP8_11(t *testing.T) {
	others, sold, alone := 0, 0, 0
	for i, s := range smalls() {
		list, e := Fewest(s.d)
		_, many, _ := s.fewest()
		if e != api.OK || many != 1 {
			continue
		}
		d := s.d
		d.Most = len(list)
		all, e := tell(d)
		if e != api.OK {
			t.Fatal(i, d, list, e)
		}
		for shop, verdict := range all.shops {
			want := api.No
			if slices.Contains(list, shop) {
				want = api.Yes
			} else {
				others++
			}
			if verdict != want {
				t.Fatal(i, d, list, all, shop)
			}
		}
		for c, one := range d.Cases {
			if slices.Contains(list, one.Shop) {
				continue
			}
			sold++
			if len(list) == 1 {
				alone++
			}
			if all.genuine[c] != api.Yes {
				t.Fatal(i, d, list, all, c)
			}
		}
	}
	if min(others, sold, alone) < 1000 {
		t.Fatal("not enough of each sort:", others, sold, alone)
	}
}

// TestHonestP8_11 has a shop whose one case nobody could have forged: it is honest, however great Most is.
func TestHonestP8_11(t *testing.T) {
	d := with(func(d *api.Dossier) { d.Most, d.Cases[1].Seen = 4, to(1300, 1399) })
	all, e := tell(d)
	if e != api.OK || !slices.Equal(all.genuine, []int{api.No, api.Yes, api.Yes, api.Open}) || !slices.Equal(all.shops, []int{api.Yes, api.No}) {
		t.Error(all, e)
	}
}

// permuted returns the dossier with its cases in another order, and with other numbers of shops: the case i comes to the place cases[i], the shop i gets the number shops[i].
func permuted(d api.Dossier, cases, shops []int) api.Dossier {
	other := cloned(d)
	for i, c := range cloned(d).Cases {
		if c.Shop != ground {
			c.Shop = shops[c.Shop]
		}
		other.Cases[cases[i]] = c
	}
	return other
}

func TestOrderP8_12(t *testing.T) {
	r := rand.New(rand.NewSource(12))
	moved := 0
	for i, s := range smalls() {
		d := s.d
		if i%3 == 0 {
			d, _ = trueDossier(r)
		}
		cases, shops := r.Perm(len(d.Cases)), r.Perm(d.Shops)
		other := permuted(d, cases, shops)
		before, e := tell(d)
		after, f := tell(other)
		if e != f || !slices.Equal(before.traits, after.traits) {
			t.Fatal(i, d, before, e, other, after, f)
		}
		for c, verdict := range before.genuine {
			if after.genuine[cases[c]] != verdict {
				t.Fatal(i, d, before, other, after)
			}
		}
		for shop, verdict := range before.shops {
			if after.shops[shops[shop]] != verdict {
				t.Fatal(i, d, before, other, after)
			}
			if verdict != before.shops[0] {
				moved++
			}
		}
		list, e := Fewest(d)
		renamed, f := Fewest(other)
		for i, shop := range list {
			list[i] = shops[shop]
		}
		slices.Sort(list)
		if e != f || !slices.Equal(list, renamed) {
			t.Fatal(i, d, list, other, renamed, e, f)
		}
		for c := range d.Cases {
			first, second, e := Why(d, c)
			third, fourth, f := Why(other, cases[c])
			if first != third || second != fourth || e != f {
				t.Fatal(i, d, c, first, second, third, fourth, e, f)
			}
		}
	}
	if moved < 300 {
		t.Fatal("too few shops are not alike:", moved)
	}
}

func TestDossiersP8_13(t *testing.T) {
	r := rand.New(rand.NewSource(13))
	for i, s := range smalls() {
		d := s.d
		if i%2 == 0 {
			d, _ = trueDossier(r)
		}
		text, e := Write(d)
		read, line, f := Read(text)
		if e != api.OK || f != api.OK || line != 0 || !reflect.DeepEqual(named(read), named(d)) {
			t.Fatal(i, d, text, read, line, e, f)
		}
		if again, e := Write(read); again != text || e != api.OK {
			t.Fatal(i, text, again, e)
		}
	}
}

// named returns a dossier without empty slices: nil stands for them.
func named(d api.Dossier) api.Dossier {
	d = cloned(d)
	if len(d.Traits) == 0 {
		d.Traits = nil
	}
	for c := range d.Cases {
		if len(d.Cases[c].Shows) == 0 {
			d.Cases[c].Shows = nil
		}
	}
	return d
}

// trueNote returns a note that is right, if the stones truly were cut in these years.
func trueNote(r *rand.Rand, years []int) api.Note {
	stone, other := r.Intn(len(years)), r.Intn(len(years))
	less, more := r.Intn(40), r.Intn(40)
	year := years[stone]
	switch {
	case stone != other && r.Intn(2) == 0:
		apart := year - years[other]
		return api.Note{Kind: api.NoteAfter, Stone: stone, Other: other, Span: to(apart-less, apart+more)}
	case r.Intn(3) == 0:
		list := []int{year - less, year, year + more}
		return api.Note{Kind: api.NoteYears, Stone: stone, Years: slices.Compact(list)}
	}
	return api.Note{Kind: api.NoteSpan, Stone: stone, Span: to(year-less, year+more)}
}

// dated returns the dossier with the years in which its cases were cut as they are dated.
func dated(t *testing.T, d api.Dossier, notes []api.Note) api.Dossier {
	t.Helper()
	years, e := date.Years(api.Dating{Stones: len(d.Cases), Notes: notes})
	if e != api.OK {
		t.Fatal(notes, e)
	}
	d = cloned(d)
	for c := range d.Cases {
		d.Cases[c].Cut = years[c]
	}
	return d
}

// TestTriedT8 has stones that truly are genuine, of which more and more is found out.
func TestTriedT8(t *testing.T) {
	r := rand.New(rand.NewSource(8))
	trials, decided, narrower := 0, 0, 0
	for i := range 2000 {
		d, w := trueDossier(r)
		var years []int
		for c, one := range d.Cases {
			year := one.Cut.Low // what truly is forged claims any year
			for ; !w.forged[c] && !trulyCut(w, one, year); year++ {
			}
			years = append(years, year)
		}
		var notes []api.Note
		before := whole{}
		for range api.MaxNotes + 1 {
			d = dated(t, d, notes)
			all, e := tell(d)
			if e != api.OK {
				t.Fatal(i, d, w, years, notes, e)
			}
			for c, forged := range w.forged {
				trials++
				if !forged && all.genuine[c] == api.No {
					t.Fatal(i, d, w, years, notes, c, all)
				}
			}
			if before.genuine != nil && (!kept(before.genuine, all.genuine) || !within(all.traits, before.traits)) {
				t.Fatal(i, d, w, years, notes, before, all)
			}
			if before.genuine != nil && !slices.Equal(before.genuine, all.genuine) {
				decided++
			}
			if before.genuine != nil && !slices.Equal(before.traits, all.traits) {
				narrower++
			}
			before = all
			notes = append(notes, trueNote(r, years))
		}
	}
	if trials < 10000 || decided < 100 || narrower < 200 {
		t.Fatal("not enough of each sort:", trials, decided, narrower)
	}
}

// trulyCut reports whether a case may truly have been cut in a year, with the traits of a truth.
func trulyCut(w truth, c api.Case, year int) bool {
	c.Cut = to(year, year)
	return w.cut(c, c.Seen.High)
}

// TestConvictedT8 has a stone with a trait that surely was not in use in the years in which it is dated.
func TestConvictedT8(t *testing.T) {
	r := rand.New(rand.NewSource(88))
	convicted, clashing := 0, 0
	for i := range 4000 {
		d, w := trueDossier(r)
		if d.Shops == 0 || len(d.Traits) == api.MaxTraits || len(d.Cases) == api.MaxCases {
			continue
		}
		stone, shop := len(d.Cases), r.Intn(d.Shops)
		d.Cases = append(d.Cases, on(shop, 0, 0, d.Begin+r.Intn(200), d.Begin+200+r.Intn(200)))
		var years []int
		for c, one := range d.Cases {
			year := one.Cut.Low
			for ; c < stone && !w.forged[c] && !trulyCut(w, one, year); year++ {
			}
			years = append(years, year)
		}
		years[stone] = d.Begin - 300 + r.Intn(300)
		notes := []api.Note{{Kind: api.NoteSpan, Stone: stone, Span: wider(r, years[stone], 30)}}
		for range r.Intn(api.MaxNotes) {
			notes = append(notes, trueNote(r, years))
		}
		d = dated(t, d, notes)
		cut, shown := d.Cases[stone].Cut, len(d.Traits)
		out := trait(cut.High+1, cut.High+50, cut.High+20, cut.High+90, d.Begin, d.Begin)
		if i%2 == 0 {
			out = trait(cut.Low-90, cut.Low-20, cut.Low-50, cut.Low-1, d.Begin, d.Begin)
		}
		d.Traits = append(d.Traits, out)
		for k := range shown {
			if !contradict(d, d.Cases[stone], api.TheClaim, k) && d.Traits[k].Known.Low <= d.Cases[stone].Seen.High && r.Intn(2) == 0 {
				d.Cases[stone].Shows = append(d.Cases[stone].Shows, k)
			}
		}
		d.Cases[stone].Shows = append(d.Cases[stone].Shows, shown)
		if first, second, e := Why(d, stone); first != api.TheClaim || second != shown || e != api.OK {
			t.Fatal(i, d, first, second, e)
		}
		d.Most = min(api.MaxShops, len(w.sellers(api.Dossier{Cases: d.Cases[:stone]}))+1)
		if all, e := tell(d); e != api.OK || all.genuine[stone] != api.No || all.shops[shop] != api.Yes {
			t.Fatal(i, d, all, e)
		}
		convicted++
		for _, hide := range []func(c *api.Case, d *api.Dossier){
			func(c *api.Case, d *api.Dossier) { c.Shop = ground },
			func(c *api.Case, d *api.Dossier) { d.Traits[shown].Known = to(c.Seen.High+1, c.Seen.High+9) },
			func(c *api.Case, d *api.Dossier) { d.Most = 0 },
		} {
			never := cloned(d)
			hide(&never.Cases[stone], &never)
			if _, e := tell(never); e != api.ErrClash {
				t.Fatal(i, never, e)
			}
			clashing++
		}
	}
	if convicted < 500 || clashing < 1500 {
		t.Fatal("not enough of each sort:", convicted, clashing)
	}
}
