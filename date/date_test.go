package date

import (
	"math"
	"reflect"
	"slices"
	"testing"

	"cippus/api"
)

// errorsOf returns what each function that takes a dating says is wrong, and whether any other result is not a zero value.
func errorsOf(d api.Dating, stone, other, year int) (list []api.Errno, left bool) {
	years, e1 := Years(d)
	firsts, e2 := Firsts(d)
	cut, e3 := Cut(d, stone, year)
	earlier, e4 := Earlier(d, stone, other)
	wrong, e5 := Wrong(d)
	table, e6 := Write(d)
	left = years != nil || firsts != nil || cut != 0 || earlier != 0 || wrong != nil || table != ""
	return []api.Errno{Check(d), e1, e2, e3, e4, e5, e6}, left
}

// manyNotes are so many notes that are right.
func manyNotes(n int) []api.Note { return slices.Repeat([]api.Note{spanNote(0, -5, 5)}, n) }

func TestCheckP5_1(t *testing.T) {
	for name, c := range map[string]struct {
		d    api.Dating
		want api.Errno
	}{
		"D":                       {example(), api.OK},
		"D with the era 1":        {noted(0, eraNote(0, 1, 100, 100)), api.ErrAbsent},
		"D with 0 0 as stones":    {noted(4, afterNote(0, 0, 0, 30)), api.ErrShape},
		"D with -207 -215":        {noted(1, yearsNote(1, -207, -215)), api.ErrSequence},
		"nothing":                 {api.Dating{}, api.ErrFew},
		"stones below 0":          {plain(-1), api.ErrFew},
		"the least stones":        {plain(math.MinInt), api.ErrFew},
		"one stone":               {plain(1), api.OK},
		"six stones":              {plain(6), api.OK},
		"seven stones":            {plain(7), api.ErrMany},
		"the most stones":         {plain(math.MaxInt), api.ErrMany},
		"few before eras":         {eras(0, make([]api.Span, 4)), api.ErrFew},
		"three eras":              {eras(1, make([]api.Span, 3)), api.OK},
		"four eras":               {eras(1, make([]api.Span, 4)), api.ErrMany},
		"four eras before bounds": {eras(1, []api.Span{to(-3001, 0), {}, {}, {}}), api.ErrMany},
		"eras at both ends":       {eras(1, []api.Span{to(-3000, -3000), to(3000, 3000), to(-3000, 3000)}), api.OK},
		"Low of an era below":     {eras(1, []api.Span{{}, to(-3001, 3)}), api.ErrBounds},
		"Low of an era above":     {eras(1, []api.Span{to(3001, 3001)}), api.ErrBounds},
		"High of an era above":    {eras(1, []api.Span{{}, {}, to(3, 3001)}), api.ErrBounds},
		"High of an era below":    {eras(1, []api.Span{to(-3001, -3001)}), api.ErrBounds},
		"bounds before sequence":  {eras(1, []api.Span{to(3001, 3)}), api.ErrBounds},
		"an era that ends first":  {eras(1, []api.Span{to(4, 3)}), api.ErrSequence},
		"era by era":              {eras(1, []api.Span{to(4, 3), to(-3001, 3)}), api.ErrSequence},
		"eras before notes":       {eras(1, []api.Span{to(4, 3)}, make([]api.Note, 9)...), api.ErrSequence},
		"eight notes":             {plain(1, manyNotes(8)...), api.OK},
		"nine notes":              {plain(1, manyNotes(9)...), api.ErrMany},
		"nine notes before sort":  {plain(1, make([]api.Note, 9)...), api.ErrMany},
		"no kind":                 {plain(1, api.Note{}), api.ErrSort},
		"kind 5":                  {plain(1, api.Note{Kind: 5}), api.ErrSort},
		"kind -1":                 {plain(1, api.Note{Kind: -1}), api.ErrSort},
		"the greatest kind":       {plain(1, api.Note{Kind: math.MaxInt}), api.ErrSort},
		"sort before absent":      {plain(1, api.Note{Kind: 5, Stone: 1}), api.ErrSort},
		"note by note":            {plain(1, yearsNote(0), api.Note{Kind: 5}), api.ErrFew},
	} {
		checkErrors(t, name, c.d, c.want)
	}
}

// checkErrors tests that a dating has that error, by Check and by all functions that return Check's error.
func checkErrors(t *testing.T, name string, d api.Dating, want api.Errno) {
	t.Helper()
	if e := Check(d); e != want {
		t.Error(name, e, want)
	}
	if want == api.OK {
		return
	}
	// A stone and a year that are none come later.
	for _, args := range [][3]int{{0, 0, 0}, {-1, 9, 9999}} {
		if errors, left := errorsOf(d, args[0], args[1], args[2]); left || slices.Min(errors) != want || slices.Max(errors) != want {
			t.Error(name, errors, left)
		}
	}
}

// TestNotesP5_1 has a note among others, of a dating of three stones and two eras.
func TestNotesP5_1(t *testing.T) {
	for name, c := range map[string]struct {
		n    api.Note
		want api.Errno
	}{
		"years":                          {yearsNote(2, -5, 0, 5), api.OK},
		"one year":                       {yearsNote(0, 7), api.OK},
		"years at both ends":             {yearsNote(2, -3000, 3000), api.OK},
		"years of no stone":              {yearsNote(3, 1), api.ErrAbsent},
		"years of a stone below 0":       {yearsNote(-1, 1), api.ErrAbsent},
		"absent before shape":            {api.Note{Kind: api.NoteYears, Stone: 3, Other: 1}, api.ErrAbsent},
		"years and another stone":        {api.Note{Kind: api.NoteYears, Other: 1, Years: []int{1}}, api.ErrShape},
		"years and another below 0":      {api.Note{Kind: api.NoteYears, Other: -1, Years: []int{1}}, api.ErrShape},
		"years and Low":                  {api.Note{Kind: api.NoteYears, Years: []int{1}, Span: to(-1, 0)}, api.ErrShape},
		"years and High":                 {api.Note{Kind: api.NoteYears, Years: []int{1}, Span: to(0, 1)}, api.ErrShape},
		"shape before few":               {api.Note{Kind: api.NoteYears, Other: 1}, api.ErrShape},
		"no years":                       {yearsNote(0), api.ErrFew},
		"an empty list of years":         {yearsNote(0, []int{}...), api.ErrFew},
		"four years":                     {yearsNote(0, 1, 2, 3, 4), api.ErrMany},
		"many before bounds":             {yearsNote(0, 3001, 2, 3, 4), api.ErrMany},
		"a year below":                   {yearsNote(0, -3001, 2), api.ErrBounds},
		"a year above":                   {yearsNote(0, 1, 2, 3001), api.ErrBounds},
		"a year below, at last":          {yearsNote(0, 1, -3001), api.ErrBounds},
		"a year twice":                   {yearsNote(0, 1, 5, 5), api.ErrSequence},
		"a year too late":                {yearsNote(0, 5, 1), api.ErrSequence},
		"year by year":                   {yearsNote(0, 5, 1, 3001), api.ErrSequence},
		"year by year, the other way":    {yearsNote(0, 3001, 1), api.ErrBounds},
		"a span":                         {spanNote(2, -3000, 3000), api.OK},
		"a span of one year":             {spanNote(2, 0, 0), api.OK},
		"a span of no stone":             {spanNote(3, 1, 2), api.ErrAbsent},
		"a span and another stone":       {api.Note{Kind: api.NoteSpan, Other: 1, Span: to(1, 2)}, api.ErrShape},
		"a span and another below 0":     {api.Note{Kind: api.NoteSpan, Other: -1, Span: to(1, 2)}, api.ErrShape},
		"a span and years":               {api.Note{Kind: api.NoteSpan, Years: []int{1}, Span: to(1, 2)}, api.ErrShape},
		"a span and no years":            {api.Note{Kind: api.NoteSpan, Years: []int{}, Span: to(1, 2)}, api.OK},
		"shape before a span's bounds":   {api.Note{Kind: api.NoteSpan, Other: 1, Span: to(1, 3001)}, api.ErrShape},
		"Low below":                      {spanNote(0, -3001, 2), api.ErrBounds},
		"High above":                     {spanNote(0, 1, 3001), api.ErrBounds},
		"bounds before sequence":         {spanNote(0, 3001, 2), api.ErrBounds},
		"a span that ends first":         {spanNote(0, 2, 1), api.ErrSequence},
		"an era":                         {eraNote(2, 1, 1, 3000), api.OK},
		"an era of no stone":             {eraNote(3, 5, 1, 1), api.ErrAbsent},
		"no such era":                    {eraNote(0, 2, 1, 1), api.ErrAbsent},
		"an era below 0":                 {eraNote(0, -1, 1, 1), api.ErrAbsent},
		"no such era before shape":       {api.Note{Kind: api.NoteEra, Other: 2, Years: []int{1}}, api.ErrAbsent},
		"an era and years":               {api.Note{Kind: api.NoteEra, Other: 1, Years: []int{1}, Span: to(1, 1)}, api.ErrShape},
		"shape before an era's bounds":   {api.Note{Kind: api.NoteEra, Other: 1, Years: []int{1}}, api.ErrShape},
		"the year 0 of an era":           {eraNote(0, 0, 0, 5), api.ErrBounds},
		"a year of an era below 0":       {eraNote(0, 0, -1, 5), api.ErrBounds},
		"a year of an era above":         {eraNote(0, 0, 1, 3001), api.ErrBounds},
		"years of an era that end first": {eraNote(0, 0, 5, 4), api.ErrSequence},
		"sequence before the year 0":     {eraNote(0, 0, 0, -1), api.ErrSequence},
		"after":                          {afterNote(2, 1, -3000, 3000), api.OK},
		"after itself":                   {afterNote(2, 2, 1, 1), api.ErrShape},
		"after, of no stone":             {afterNote(3, 3, 1, 1), api.ErrAbsent},
		"after no stone":                 {afterNote(0, 3, 1, 1), api.ErrAbsent},
		"after a stone below 0":          {afterNote(0, -1, 1, 1), api.ErrAbsent},
		"absent before years":            {api.Note{Kind: api.NoteAfter, Other: 3, Years: []int{1}}, api.ErrAbsent},
		"after and years":                {api.Note{Kind: api.NoteAfter, Other: 1, Years: []int{1}}, api.ErrShape},
		"itself before bounds":           {afterNote(2, 2, 2, 3001), api.ErrShape},
		"after, with Low below":          {afterNote(2, 1, -3001, 1), api.ErrBounds},
		"after, with High above":         {afterNote(2, 1, 1, 3001), api.ErrBounds},
		"after, that ends first":         {afterNote(2, 1, 2, 1), api.ErrSequence},
		"after, with the greatest ones":  {afterNote(2, 1, math.MinInt, math.MaxInt), api.ErrBounds},
	} {
		firsts := []api.Span{to(1, 2), to(3, 4)}
		checkErrors(t, name, eras(3, firsts, c.n), c.want)
		checkErrors(t, name+", behind another one", eras(3, firsts, spanNote(1, 1, 2), c.n), c.want)
		if c.want != api.OK {
			checkErrors(t, name+", ahead of a worse one", eras(3, firsts, c.n, api.Note{Kind: 7}), c.want)
			checkErrors(t, name+", ahead of another error", eras(3, firsts, c.n, yearsNote(0)), c.want)
		}
	}
}

func TestYearsP5_1(t *testing.T) {
	any := to(-3000, 3000)
	for name, c := range map[string]struct {
		d             api.Dating
		years, firsts []api.Span
	}{
		"D":                         {example(), []api.Span{to(-213, -212), to(-207, -207), to(-200, -177)}, []api.Span{to(-312, -311)}},
		"F":                         {noted(2, afterNote(1, 0, -5, 10)), []api.Span{to(-213, -212), to(-215, -207), to(-200, -177)}, []api.Span{to(-312, -311)}},
		"an era that gets narrower": {noted(2, afterNote(1, 0, 6, 10)), []api.Span{to(-213, -213), to(-207, -207), to(-200, -177)}, []api.Span{to(-312, -312)}},
		"one stone":                 {plain(1), []api.Span{any}, nil},
		"six stones":                {plain(6), []api.Span{any, any, any, any, any, any}, nil},
		"eras without notes":        {eras(1, []api.Span{to(-3000, 3000), to(0, 0), to(7, 9)}), []api.Span{any}, []api.Span{to(-3000, 3000), to(0, 0), to(7, 9)}},
		"the year 0":                {plain(1, yearsNote(0, 0)), []api.Span{to(0, 0)}, nil},
		"years around 0":            {plain(2, spanNote(0, -1, 1), afterNote(1, 0, -1, 1)), []api.Span{to(-1, 1), to(-2, 2)}, nil},
		"both ends":                 {plain(2, yearsNote(0, -3000, 3000), afterNote(1, 0, 1, 3000)), []api.Span{to(-3000, -3000), to(-2999, 0)}, nil},
		"from end to end":           {plain(3, afterNote(1, 0, 3000, 3000), afterNote(2, 1, 3000, 3000)), []api.Span{to(-3000, -3000), to(0, 0), to(3000, 3000)}, nil},
		"a chain":                   {plain(6, afterNote(1, 0, 1, 1), afterNote(2, 1, 1, 2), afterNote(3, 2, 1, 3), afterNote(4, 3, 1, 4), afterNote(5, 4, 1, 5)), []api.Span{to(-3000, 2995), to(-2999, 2996), to(-2998, 2997), to(-2997, 2998), to(-2996, 2999), to(-2995, 3000)}, nil},
		"a chain, bound at its end": {plain(6, afterNote(1, 0, 1, 1), afterNote(2, 1, 1, 2), afterNote(3, 2, 1, 3), afterNote(4, 3, 1, 4), afterNote(5, 4, 1, 5), spanNote(5, 100, 100)), []api.Span{to(85, 95), to(86, 96), to(88, 97), to(91, 98), to(95, 99), to(100, 100)}, nil},
		"a chain and a short way":   {plain(3, afterNote(1, 0, 1, 10), afterNote(2, 1, 1, 10), afterNote(2, 0, 2, 3), spanNote(0, 50, 50)), []api.Span{to(50, 50), to(51, 52), to(52, 53)}, nil},
		"a ring":                    {plain(3, afterNote(1, 0, 1, 3), afterNote(2, 1, 1, 3), afterNote(0, 2, -4, -4), spanNote(1, 10, 12)), []api.Span{to(7, 11), to(10, 12), to(11, 15)}, nil},
		"before another stone":      {plain(2, spanNote(0, 7, 9), afterNote(1, 0, -20, -10)), []api.Span{to(7, 9), to(-13, -1)}, nil},
		"consuls that return":       {plain(2, yearsNote(0, 10, 20, 30), yearsNote(1, 12, 25), afterNote(1, 0, 0, 4)), []api.Span{to(10, 10), to(12, 12)}, nil},
		"consuls of several stones": {plain(3, yearsNote(0, 10, 20, 30), yearsNote(1, 12, 25, 33), afterNote(1, 0, 2, 3), afterNote(2, 1, -1, 1)), []api.Span{to(10, 30), to(12, 33), to(11, 34)}, nil},
		"consuls, twice":            {plain(1, yearsNote(0, 10, 20, 30), yearsNote(0, 20, 30, 40)), []api.Span{to(20, 30)}, nil},
		"a span of no year's width": {plain(1, spanNote(0, 5, 9), spanNote(0, 9, 12)), []api.Span{to(9, 9)}, nil},
		"an era that two share":     {eras(2, []api.Span{to(0, 50)}, eraNote(0, 0, 1, 1), eraNote(1, 0, 11, 11), yearsNote(1, 20, 90)), []api.Span{to(10, 10), to(20, 20)}, []api.Span{to(10, 10)}},
		"two eras for one stone":    {eras(1, []api.Span{to(0, 10), to(5, 30)}, eraNote(0, 0, 3, 4), eraNote(0, 1, 1, 1)), []api.Span{to(5, 13)}, []api.Span{to(2, 10), to(5, 13)}},
		"two eras, one known":       {eras(2, []api.Span{to(0, 10), to(5, 5)}, eraNote(0, 0, 3, 4), eraNote(0, 1, 1, 1)), []api.Span{to(5, 5), any}, []api.Span{to(2, 3), to(5, 5)}},
		"the third era":             {eras(1, []api.Span{to(0, 0), to(0, 0), to(-7, -5)}, eraNote(0, 2, 1, 2)), []api.Span{to(-7, -4)}, []api.Span{to(0, 0), to(0, 0), to(-7, -5)}},
		"the last year of an era":   {eras(1, []api.Span{to(-3000, -3000)}, eraNote(0, 0, 1, 3000)), []api.Span{to(-3000, -1)}, []api.Span{to(-3000, -3000)}},
		"a first year too late":     {eras(1, []api.Span{to(2990, 3000)}, eraNote(0, 0, 5, 20)), []api.Span{to(2994, 3000)}, []api.Span{to(2990, 2996)}},
		"a first year too early":    {eras(2, []api.Span{to(-3000, -2990)}, eraNote(0, 0, 1, 1), afterNote(1, 0, -5, -5)), []api.Span{to(-2995, -2990), to(-3000, -2995)}, []api.Span{to(-2995, -2990)}},
		"eight notes":               {plain(1, slices.Repeat([]api.Note{yearsNote(0, 1, 2, 3)}, 8)...), []api.Span{to(1, 3)}, nil},
		"a year that cannot be":     {plain(2, yearsNote(0, 1, 5, 9), afterNote(1, 0, 4, 4), spanNote(1, 6, 13)), []api.Span{to(5, 9), to(9, 13)}, nil},
	} {
		years, e := Years(c.d)
		firsts, f := Firsts(c.d)
		if e != api.OK || f != api.OK || !slices.Equal(years, c.years) || !slices.Equal(firsts, c.firsts) {
			t.Error(name, years, firsts, e, f)
		}
	}
}

// clashes are datings that may not be.
func clashes() map[string]api.Dating {
	return map[string]api.Dating{
		"G":                        with(func(d *api.Dating) { d.Notes = append(d.Notes, spanNote(1, -190, -180)) }),
		"two years":                plain(1, yearsNote(0, 1), yearsNote(0, 2)),
		"years and a hole":         plain(1, yearsNote(0, 1, 5), spanNote(0, 2, 4)),
		"no year after the last":   plain(2, spanNote(0, 3000, 3000), afterNote(1, 0, 1, 9)),
		"no year before the first": plain(2, spanNote(0, -3000, -3000), afterNote(1, 0, -9, -1)),
		"too far":                  plain(4, afterNote(1, 0, 3000, 3000), afterNote(2, 1, 3000, 3000), afterNote(3, 2, 1, 1)),
		"each after the other":     plain(2, afterNote(0, 1, 1, 5), afterNote(1, 0, 1, 5)),
		"later than itself":        plain(3, afterNote(1, 0, 1, 3000), afterNote(2, 1, 0, 3000), afterNote(0, 2, 0, 3000)),
		"a ring of six":            plain(6, afterNote(1, 0, 1, 9), afterNote(2, 1, 1, 9), afterNote(3, 2, 1, 9), afterNote(4, 3, 1, 9), afterNote(5, 4, 1, 9), afterNote(5, 0, 1, 4)),
		"an era too late":          eras(1, []api.Span{to(2990, 3000)}, eraNote(0, 0, 12, 20)),
		"an era known better":      eras(2, []api.Span{to(0, 10)}, eraNote(0, 0, 1, 1), eraNote(1, 0, 1, 1), afterNote(1, 0, 1, 1)),
		"consuls of no such years": plain(2, yearsNote(0, 10, 20, 30), yearsNote(1, 15, 25, 35), afterNote(1, 0, -4, 4)),
	}
}

func TestClashP5_1(t *testing.T) {
	for name, d := range clashes() {
		years, e := Years(d)
		firsts, f := Firsts(d)
		cut, g := Cut(d, 0, 0)
		earlier, h := Earlier(d, 0, 0)
		if years != nil || firsts != nil || cut != 0 || earlier != 0 || slices.Min([]api.Errno{e, f, g, h}) != api.ErrClash || slices.Max([]api.Errno{e, f, g, h}) != api.ErrClash {
			t.Error(name, years, firsts, cut, earlier, e, f, g, h)
		}
	}
}

func TestCutP5_2(t *testing.T) {
	f := noted(2, afterNote(1, 0, -5, 10))
	returns := plain(2, yearsNote(0, -10, 0, 20), afterNote(1, 0, 1, 3))
	for i, c := range []struct {
		d           api.Dating
		stone, year int
		want        int
		e           api.Errno
	}{
		{example(), 0, -213, api.Open, api.OK}, {example(), 0, -212, api.Open, api.OK}, {example(), 0, -214, api.No, api.OK}, {example(), 0, -211, api.No, api.OK},
		{example(), 1, -207, api.Yes, api.OK}, {example(), 1, -215, api.No, api.OK}, {example(), 1, -206, api.No, api.OK},
		{f, 1, -210, api.No, api.OK}, {f, 1, -215, api.Open, api.OK}, {f, 1, -207, api.Open, api.OK}, {f, 2, -177, api.Open, api.OK}, {f, 2, -176, api.No, api.OK},
		{returns, 0, -10, api.Open, api.OK}, {returns, 0, 0, api.Open, api.OK}, {returns, 0, 20, api.Open, api.OK}, {returns, 0, -9, api.No, api.OK}, {returns, 0, 1, api.No, api.OK}, {returns, 0, 19, api.No, api.OK},
		{returns, 1, -10, api.No, api.OK}, {returns, 1, -9, api.Open, api.OK}, {returns, 1, -7, api.Open, api.OK}, {returns, 1, -6, api.No, api.OK}, {returns, 1, 0, api.No, api.OK}, {returns, 1, 1, api.Open, api.OK}, {returns, 1, 23, api.Open, api.OK}, {returns, 1, 24, api.No, api.OK},
		{plain(1), 0, 3000, api.Open, api.OK}, {plain(1), 0, -3000, api.Open, api.OK}, {plain(6), 5, 0, api.Open, api.OK},
		{plain(1, yearsNote(0, 0)), 0, 0, api.Yes, api.OK}, {plain(1, yearsNote(0, 3000)), 0, 3000, api.Yes, api.OK}, {plain(1, yearsNote(0, -3000)), 0, -3000, api.Yes, api.OK}, {plain(1, yearsNote(0, 0)), 0, 1, api.No, api.OK},
		{example(), 3, 0, 0, api.ErrAbsent}, {example(), -1, 0, 0, api.ErrAbsent}, {example(), 3, 3001, 0, api.ErrAbsent}, {example(), math.MaxInt, math.MinInt, 0, api.ErrAbsent}, {plain(5), 5, 0, 0, api.ErrAbsent},
		{example(), 0, 3001, 0, api.ErrBounds}, {example(), 0, -3001, 0, api.ErrBounds}, {example(), 2, math.MinInt, 0, api.ErrBounds}, {example(), 2, math.MaxInt, 0, api.ErrBounds},
		{clashes()["two years"], 1, 0, 0, api.ErrAbsent}, {clashes()["two years"], 0, 3001, 0, api.ErrBounds}, {clashes()["two years"], 0, 1, 0, api.ErrClash}, {clashes()["G"], 2, 3000, 0, api.ErrClash},
	} {
		if v, e := Cut(c.d, c.stone, c.year); v != c.want || e != c.e {
			t.Error(i, v, e)
		}
	}
}

func TestEarlierP5_2(t *testing.T) {
	f := noted(2, afterNote(1, 0, -5, 10))
	two := func(low, high int) api.Dating { return plain(2, afterNote(1, 0, low, high)) }
	for i, c := range []struct {
		d    api.Dating
		a, b int
		want int
		e    api.Errno
	}{
		{example(), 0, 1, api.Yes, api.OK}, {example(), 1, 0, api.No, api.OK}, {example(), 2, 0, api.No, api.OK}, {example(), 0, 2, api.Yes, api.OK}, {example(), 1, 2, api.Yes, api.OK}, {example(), 2, 1, api.No, api.OK},
		{f, 0, 1, api.Open, api.OK}, {f, 1, 0, api.Open, api.OK}, {f, 0, 0, api.No, api.OK}, {plain(1), 0, 0, api.No, api.OK}, {plain(6), 5, 5, api.No, api.OK}, {plain(6), 4, 5, api.Open, api.OK},
		{two(0, 0), 0, 1, api.No, api.OK}, {two(0, 0), 1, 0, api.No, api.OK}, {two(0, 1), 0, 1, api.Open, api.OK}, {two(0, 1), 1, 0, api.No, api.OK}, {two(1, 1), 0, 1, api.Yes, api.OK}, {two(1, 1), 1, 0, api.No, api.OK}, {two(-1, 0), 0, 1, api.No, api.OK}, {two(-1, 0), 1, 0, api.Open, api.OK}, {two(-1, -1), 1, 0, api.Yes, api.OK}, {two(-1, 1), 1, 0, api.Open, api.OK},
		// Where the years overlap, it still is sure which stone is the earlier one.
		{plain(2, spanNote(0, 0, 100), afterNote(1, 0, 1, 2)), 0, 1, api.Yes, api.OK}, {plain(3, spanNote(0, 0, 100), afterNote(1, 0, 1, 2), afterNote(2, 1, -1, 2)), 0, 2, api.Open, api.OK}, {plain(3, spanNote(0, 0, 100), afterNote(1, 0, 1, 2), afterNote(2, 1, 0, 2)), 0, 2, api.Yes, api.OK},
		// Two years of an era, whose first one is not known, are in order.
		{eras(2, []api.Span{to(0, 500)}, eraNote(0, 0, 5, 6), eraNote(1, 0, 7, 8)), 0, 1, api.Yes, api.OK}, {eras(2, []api.Span{to(0, 500)}, eraNote(0, 0, 5, 7), eraNote(1, 0, 7, 8)), 0, 1, api.Open, api.OK},
		// In one choice of years it is so, in another one not.
		{plain(2, yearsNote(0, 1, 9), yearsNote(1, 5)), 0, 1, api.Open, api.OK}, {plain(2, yearsNote(0, 1, 4), yearsNote(1, 5, 9)), 0, 1, api.Yes, api.OK}, {plain(2, yearsNote(0, 5, 9), yearsNote(1, 2, 5)), 0, 1, api.No, api.OK},
		{example(), 0, 3, 0, api.ErrAbsent}, {example(), 3, 0, 0, api.ErrAbsent}, {example(), -1, 0, 0, api.ErrAbsent}, {example(), 0, -1, 0, api.ErrAbsent}, {example(), 3, 3, 0, api.ErrAbsent}, {example(), math.MinInt, math.MaxInt, 0, api.ErrAbsent},
		{clashes()["two years"], 0, 1, 0, api.ErrAbsent}, {clashes()["two years"], 0, 0, 0, api.ErrClash}, {clashes()["G"], 0, 2, 0, api.ErrClash},
	} {
		if v, e := Earlier(c.d, c.a, c.b); v != c.want || e != c.e {
			t.Error(i, v, e)
		}
	}
}

func TestWrongP5_3(t *testing.T) {
	sevenYears := func() (list []api.Note) {
		for i := range 8 {
			list = append(list, yearsNote(0, 10*i, 10*i+1, 10*i+2))
		}
		return list
	}
	for name, c := range map[string]struct {
		d    api.Dating
		want []int
	}{
		"D":                           {example(), nil},
		"G":                           {clashes()["G"], []int{5}},
		"no notes":                    {plain(1), nil},
		"eight notes that are right":  {plain(1, manyNotes(8)...), nil},
		"two years":                   {clashes()["two years"], []int{0}},
		"the first one of two":        {plain(1, yearsNote(0, 1), yearsNote(0, 2), spanNote(0, 2, 9)), []int{0}},
		"the one in between":          {plain(1, spanNote(0, 1, 5), yearsNote(0, 9), spanNote(0, 5, 6)), []int{1}},
		"the last one":                {plain(1, spanNote(0, 1, 5), spanNote(0, 4, 5), yearsNote(0, 9)), []int{2}},
		"each after the other":        {clashes()["each after the other"], []int{0}},
		"a ring of six":               {clashes()["a ring of six"], []int{0}},
		"a short way in a ring":       {plain(3, spanNote(0, 0, 0), spanNote(2, 20, 20), afterNote(1, 0, 1, 3), afterNote(2, 1, 17, 19), afterNote(2, 0, 5, 5)), []int{4}},
		"two of three":                {plain(1, spanNote(0, 1, 1), spanNote(0, 2, 2), spanNote(0, 3, 3)), []int{0, 1}},
		"two of four, not the first":  {plain(1, spanNote(0, 1, 1), spanNote(0, 2, 2), spanNote(0, 2, 3), spanNote(0, 1, 1)), []int{0, 3}},
		"two for two stones":          {plain(2, spanNote(0, 1, 1), spanNote(0, 2, 2), spanNote(1, 3, 3), spanNote(1, 4, 4)), []int{0, 2}},
		"two that are not neighbours": {plain(2, spanNote(1, 3, 3), spanNote(0, 1, 1), spanNote(1, 3, 4), spanNote(0, 2, 2), spanNote(0, 1, 2), spanNote(1, 4, 4)), []int{0, 1}},
		"later, but fewer":            {plain(1, yearsNote(0, 1), yearsNote(0, 1, 2), spanNote(0, 1, 3), spanNote(0, 4, 5)), []int{3}},
		"seven of eight":              {plain(1, sevenYears()...), []int{0, 1, 2, 3, 4, 5, 6}},
		"a note that is wrong alone":  {eras(1, []api.Span{to(3000, 3000)}, eraNote(0, 0, 2, 2)), []int{0}},
		"one that is wrong alone":     {eras(2, []api.Span{to(3000, 3000)}, spanNote(1, 1, 1), spanNote(1, 2, 2), eraNote(0, 0, 2, 2)), []int{0, 2}},
		"all that are wrong alone":    {eras(1, []api.Span{to(3000, 3000)}, slices.Repeat([]api.Note{eraNote(0, 0, 2, 2)}, 8)...), []int{0, 1, 2, 3, 4, 5, 6, 7}},
		"consuls of no such years":    {clashes()["consuls of no such years"], []int{0}},
		"too far":                     {clashes()["too far"], []int{0}},
	} {
		if list, e := Wrong(c.d); e != api.OK || !slices.Equal(list, c.want) {
			t.Error(name, list, e)
		}
	}
}

// TestManyChoicesP5_3 has as many choices as there can be, of which the last note refuses all.
func TestManyChoicesP5_3(t *testing.T) {
	var notes []api.Note
	for stone := range api.MaxStones {
		notes = append(notes, yearsNote(stone, 100*stone, 100*stone+10, 100*stone+20))
	}
	d := plain(api.MaxStones, notes...)
	far := more(d, afterNote(5, 0, 480, 520), afterNote(4, 1, 279, 279))
	if list, e := Wrong(far); !slices.Equal(list, []int{1}) || e != api.OK {
		t.Error(list, e)
	}
	if years, e := Years(more(d, afterNote(5, 0, 480, 480), afterNote(4, 1, 320, 320))); e != api.OK || !slices.Equal(years, []api.Span{to(20, 20), to(100, 100), to(200, 220), to(300, 320), to(420, 420), to(500, 500)}) {
		t.Error(years, e)
	}
}

func TestSetsP5_3(t *testing.T) {
	var lists [][]int
	for _, s := range sets(3) {
		lists = append(lists, s.list())
		if s.size() != len(s.list()) {
			t.Error(s, s.size())
		}
		for note := range 4 {
			if s.has(note) != slices.Contains(s.list(), note) {
				t.Error(s, note)
			}
		}
	}
	if !reflect.DeepEqual(lists, [][]int{nil, {0}, {1}, {2}, {0, 1}, {0, 2}, {1, 2}, {0, 1, 2}}) {
		t.Error(lists)
	}
	for notes := range 9 {
		all := sets(notes)
		for i := 1; i < len(all); i++ {
			if all[i-1].compare(all[i]) >= 0 || all[i].compare(all[i-1]) <= 0 || all[i].compare(all[i]) != 0 {
				t.Error(notes, all[i-1].list(), all[i].list())
			}
		}
		if len(all) != 1<<notes {
			t.Error(notes, len(all))
		}
	}
}

// wild are numbers far outside all limits, and some within.
func wild(i int) int {
	list := []int{0, 1, 2, 3, 4, 5, -1, 50, 2999, 3000, 3001, -2999, -3000, -3001, math.MinInt, math.MinInt + 5, math.MaxInt, math.MaxInt - 5}
	return list[(i%len(list)+len(list))%len(list)]
}

func TestAnyArgumentsP1(t *testing.T) {
	valid := 0
	for i := range 20000 {
		d := api.Dating{Stones: wild(i / 5)}
		for k := range i % 5 {
			d.Eras = append(d.Eras, to(wild(i+k), wild(i/3+k)))
		}
		for k := range i / 7 % 10 {
			n := api.Note{Kind: 1 + (i+k)%4, Stone: wild(i / 11 * k), Other: wild(i/13 + k), Span: to(wild(i/2+k), wild(i/17+k))}
			for m := range (i + k) % 5 {
				n.Years = append(n.Years, wild(i+m*m))
			}
			d.Notes = append(d.Notes, n)
		}
		errors, left := errorsOf(d, wild(i/3), wild(i/19), wild(i/2))
		if errors[0] == api.OK {
			valid++
		} else if left || slices.Min(errors) != errors[0] || slices.Max(errors) != errors[0] {
			t.Fatal(i, d, errors)
		}
	}
	if valid < 100 {
		t.Error("too few are valid:", valid)
	}
}

func TestAnyTablesP1(t *testing.T) {
	bytes := []byte("stones 1-2\nerayfo \xff\x00")
	text, _ := Write(example())
	for i := range 30000 {
		table := []byte(text)
		table[i*7%len(table)] = bytes[i%len(bytes)]
		table[i/7%len(table)] = bytes[i/5%len(bytes)]
		d, row, e := Read(string(table[i%3:]))
		if e != api.OK && !reflect.DeepEqual(d, api.Dating{}) || row != 0 && e != api.ErrShape || e == api.OK && Check(d) != api.OK {
			t.Fatal(i, string(table), d, row, e)
		}
	}
}

func TestArgumentsStayR4(t *testing.T) {
	for i, s := range smalls()[:200] {
		d := cloned(s.d)
		errorsOf(s.d, 0, s.d.Stones-1, 0)
		if !reflect.DeepEqual(d, s.d) {
			t.Fatal(i, d, s.d)
		}
	}
}

// TestResultsApartR4 changes results, which must change neither an argument nor another result.
func TestResultsApartR4(t *testing.T) {
	d := plain(1, yearsNote(0, 1, 2), yearsNote(0, 1, 2), yearsNote(0, 1, 2))
	text, _ := Write(d)
	read, _, _ := Read(text)
	for i, n := range read.Notes {
		if !slices.Equal(n.Years, []int{1, 2}) {
			t.Fatal(i, n)
		}
		_ = append(n.Years, 7)
		clear(n.Years)
	}
	again, _, _ := Read(text)
	if !reflect.DeepEqual(again, d) {
		t.Error(again)
	}
	years, _ := Years(example())
	firsts, _ := Firsts(example())
	wrong, _ := Wrong(clashes()["two years"])
	clear(years)
	clear(firsts)
	clear(wrong)
	if list, _ := Years(example()); list[0] != to(-213, -212) {
		t.Error(list)
	}
	if list, _ := Wrong(plain(1, spanNote(0, 1, 1), spanNote(0, 2, 2), spanNote(0, 1, 1))); !slices.Equal(list, []int{1}) {
		t.Error(list)
	}
}

func TestNilAsEmptyR4(t *testing.T) {
	empty := []int{}
	a := eras(2, nil, spanNote(0, 1, 2), afterNote(1, 0, 1, 2))
	b := eras(2, []api.Span{}, api.Note{Kind: api.NoteSpan, Years: empty, Span: to(1, 2)}, api.Note{Kind: api.NoteAfter, Stone: 1, Years: empty, Span: to(1, 2)})
	for _, d := range []api.Dating{a, b, {Stones: 1, Notes: []api.Note{}}} {
		errors, _ := errorsOf(d, 0, 0, 0)
		if slices.Max(errors) != api.OK {
			t.Error(d, errors)
		}
	}
	s, _ := Write(a)
	if text, e := Write(b); text != s || e != api.OK {
		t.Error(s, text, e)
	}
}
