package forge

import (
	"math"
	"reflect"
	"slices"
	"testing"

	"cippus/api"
)

const (
	y = api.Yes
	n = api.No
	o = api.Open
)

// errorsOf returns what each function that takes a dossier says is wrong, and whether any other result is not a zero value.
func errorsOf(d api.Dossier, c int) (list []api.Errno, left bool) {
	genuine, e1 := Genuine(d)
	shops, e2 := Shops(d)
	traits, e3 := Traits(d)
	fewest, e4 := Fewest(d)
	text, e5 := Write(d)
	first, second, e6 := Why(d, c)
	secrets, e7 := Knew(d, c)
	left = genuine != nil || shops != nil || traits != nil || fewest != nil || text != "" || first != 0 || second != 0 || secrets != nil
	return []api.Errno{Check(d), e1, e2, e3, e4, e5, e6, e7}, left
}

// checkErrors tests that a dossier has that error, by Check and by all functions that return Check's error.
func checkErrors(t *testing.T, name string, d api.Dossier, want api.Errno) {
	t.Helper()
	if e := Check(d); e != want {
		t.Error(name, e, want)
	}
	if want == api.OK {
		return
	}
	for _, c := range []int{0, -1, 9} { // cases that are none come later
		if errors, left := errorsOf(d, c); left || slices.Min(errors) != want || slices.Max(errors) != want {
			t.Error(name, errors, left)
		}
	}
}

func TestCheckP8_1(t *testing.T) {
	head := func(begin, most, shops int) api.Dossier {
		return api.Dossier{Begin: begin, Most: most, Shops: shops, Cases: []api.Case{{Shop: ground}}}
	}
	for name, c := range map[string]struct {
		d    api.Dossier
		want api.Errno
	}{
		"D":                        {example(), api.OK},
		"D without cases":          {with(func(d *api.Dossier) { d.Cases = nil }), api.ErrFew},
		"D with a shop 2":          {with(func(d *api.Dossier) { d.Cases[1].Shop = 2 }), api.ErrAbsent},
		"D with 1 0":               {with(func(d *api.Dossier) { d.Cases[0].Shows = []int{1, 0} }), api.ErrSequence},
		"nothing":                  {api.Dossier{}, api.ErrFew},
		"all 0":                    {head(0, 0, 0), api.OK},
		"the first Begin":          {head(-3000, 0, 0), api.OK},
		"the last Begin":           {head(3000, 0, 0), api.OK},
		"a Begin below":            {head(-3001, 0, 0), api.ErrBounds},
		"a Begin above":            {head(3001, 0, 0), api.ErrBounds},
		"the least Begin":          {head(math.MinInt, 0, 0), api.ErrBounds},
		"the greatest Begin":       {head(math.MaxInt, 0, 0), api.ErrBounds},
		"Most 4":                   {head(0, 4, 0), api.OK},
		"Most 5":                   {head(0, 5, 0), api.ErrBounds},
		"Most below 0":             {head(0, -1, 0), api.ErrBounds},
		"the least Most":           {head(0, math.MinInt, 4), api.ErrBounds},
		"the greatest Most":        {head(0, math.MaxInt, 4), api.ErrBounds},
		"four shops":               {head(0, 0, 4), api.OK},
		"five shops":               {head(0, 0, 5), api.ErrBounds},
		"fewer than no shops":      {head(0, 0, -1), api.ErrBounds},
		"the fewest shops":         {head(0, 4, math.MinInt), api.ErrBounds},
		"the most shops":           {head(0, 4, math.MaxInt), api.ErrBounds},
		"both at their ends":       {head(-3000, 4, 4), api.OK},
		"bounds before traits":     {with(func(d *api.Dossier) { d.Shops, d.Traits = 5, make([]api.Trait, 7) }), api.ErrBounds},
		"Begin before cases":       {with(func(d *api.Dossier) { d.Begin, d.Cases = 3001, nil }), api.ErrBounds},
		"Most before cases":        {with(func(d *api.Dossier) { d.Most, d.Cases = -1, nil }), api.ErrBounds},
		"many traits before cases": {with(func(d *api.Dossier) { d.Traits, d.Cases = make([]api.Trait, 7), nil }), api.ErrMany},
		"a trait before cases":     {with(func(d *api.Dossier) { d.Traits[2].Known, d.Cases = to(2, 1), nil }), api.ErrSequence},
		"a trait before a case":    {with(func(d *api.Dossier) { d.Traits[2].Known, d.Cases[0].Shop = to(2, 1), 9 }), api.ErrSequence},
		"no truth, but valid":      {with(func(d *api.Dossier) { d.Most = 0 }), api.OK},
		"a trait of no year":       {with(func(d *api.Dossier) { d.Traits[0].From = to(351, 360) }), api.OK},
	} {
		checkErrors(t, name, c.d, c.want)
	}
}

func TestTraitErrorsP8_1(t *testing.T) {
	good := trait(-3000, 3000, -3000, 3000, -3000, 3000)
	for name, c := range map[string]struct {
		traits []api.Trait
		want   api.Errno
	}{
		"none":                      {nil, api.OK},
		"one":                       {[]api.Trait{{}}, api.OK},
		"six":                       {slices.Repeat([]api.Trait{good}, 6), api.OK},
		"seven":                     {slices.Repeat([]api.Trait{good}, 7), api.ErrMany},
		"many before bounds":        {slices.Repeat([]api.Trait{trait(3001, 0, 0, 0, 0, 0)}, 7), api.ErrMany},
		"the first year":            {[]api.Trait{trait(-3000, -3000, -3000, -3000, -3000, -3000)}, api.OK},
		"the last year":             {[]api.Trait{trait(3000, 3000, 3000, 3000, 3000, 3000)}, api.OK},
		"From that goes below":      {[]api.Trait{trait(-3001, 0, 0, 0, 0, 0)}, api.ErrBounds},
		"From that goes above":      {[]api.Trait{trait(0, 3001, 0, 0, 0, 0)}, api.ErrBounds},
		"Until that goes below":     {[]api.Trait{trait(0, 0, -3001, 0, 0, 0)}, api.ErrBounds},
		"Until that goes above":     {[]api.Trait{trait(0, 0, 0, 3001, 0, 0)}, api.ErrBounds},
		"Known that goes below":     {[]api.Trait{trait(0, 0, 0, 0, -3001, 0)}, api.ErrBounds},
		"Known that goes above":     {[]api.Trait{trait(0, 0, 0, 0, 0, 3001)}, api.ErrBounds},
		"From that ends first":      {[]api.Trait{trait(1, 0, 0, 0, 0, 0)}, api.ErrSequence},
		"Until that ends first":     {[]api.Trait{trait(0, 0, 1, 0, 0, 0)}, api.ErrSequence},
		"Known that ends first":     {[]api.Trait{trait(0, 0, 0, 0, 1, 0)}, api.ErrSequence},
		"bounds before sequence":    {[]api.Trait{trait(3001, 0, 0, 0, 0, 0)}, api.ErrBounds},
		"From before Until":         {[]api.Trait{trait(1, 0, 3001, 3001, 0, 0)}, api.ErrSequence},
		"Until before Known":        {[]api.Trait{trait(0, 0, 0, 3001, 1, 0)}, api.ErrBounds},
		"Known before the next":     {[]api.Trait{trait(0, 0, 0, 0, 1, 0), trait(3001, 0, 0, 0, 0, 0)}, api.ErrSequence},
		"the last of six":           {append(slices.Repeat([]api.Trait{good}, 5), trait(0, 0, 0, 0, 0, math.MaxInt)), api.ErrBounds},
		"the greatest numbers":      {[]api.Trait{trait(math.MaxInt, math.MinInt, 0, 0, 0, 0)}, api.ErrBounds},
		"Until before From is fine": {[]api.Trait{trait(9, 9, 1, 1, 0, 0)}, api.OK},
	} {
		checkErrors(t, name, api.Dossier{Traits: c.traits, Cases: []api.Case{{Shop: ground}}}, c.want)
		if c.want != api.OK {
			checkErrors(t, name+", before cases", api.Dossier{Traits: c.traits}, c.want)
		}
	}
}

func TestCaseErrorsP8_1(t *testing.T) {
	good := on(1, -3000, 3000, -3000, 3000, 0, 1, 2)
	for name, c := range map[string]struct {
		cases []api.Case
		want  api.Errno
	}{
		"none":                     {nil, api.ErrFew},
		"an empty list":            {[]api.Case{}, api.ErrFew},
		"one":                      {[]api.Case{good}, api.OK},
		"six":                      {slices.Repeat([]api.Case{good}, 6), api.OK},
		"seven":                    {slices.Repeat([]api.Case{good}, 7), api.ErrMany},
		"many before an error":     {slices.Repeat([]api.Case{on(9, 0, 0, 0, 0)}, 7), api.ErrMany},
		"no trait":                 {[]api.Case{on(0, 0, 0, 0, 0)}, api.OK},
		"an empty list of traits":  {[]api.Case{{Shows: []int{}}}, api.OK},
		"the last trait":           {[]api.Case{on(0, 0, 0, 0, 0, 2)}, api.OK},
		"a trait that is none":     {[]api.Case{on(0, 0, 0, 0, 0, 3)}, api.ErrAbsent},
		"a trait below 0":          {[]api.Case{on(0, 0, 0, 0, 0, -1)}, api.ErrAbsent},
		"a trait behind all":       {[]api.Case{on(0, 0, 0, 0, 0, 0, 1, 2, 3)}, api.ErrAbsent},
		"the greatest trait":       {[]api.Case{on(0, 0, 0, 0, 0, math.MaxInt)}, api.ErrAbsent},
		"a trait twice":            {[]api.Case{on(0, 0, 0, 0, 0, 1, 1)}, api.ErrSequence},
		"a lesser trait":           {[]api.Case{on(0, 0, 0, 0, 0, 0, 2, 1)}, api.ErrSequence},
		"a sequence, then absent":  {[]api.Case{on(0, 0, 0, 0, 0, 1, 0, 3)}, api.ErrSequence},
		"absent, then a sequence":  {[]api.Case{on(0, 0, 0, 0, 0, 3, 1, 0)}, api.ErrAbsent},
		"absent before a sequence": {[]api.Case{on(0, 0, 0, 0, 0, 1, -1)}, api.ErrAbsent},
		"many traits":              {[]api.Case{on(0, 0, 0, 0, 0, make([]int, 100)...)}, api.ErrSequence},
		"traits before years":      {[]api.Case{on(0, 3001, 0, 0, 0, 0, 0)}, api.ErrSequence},
		"Cut that goes below":      {[]api.Case{on(0, -3001, 0, 0, 0)}, api.ErrBounds},
		"Cut that goes above":      {[]api.Case{on(0, 0, 3001, 0, 0)}, api.ErrBounds},
		"Cut that ends first":      {[]api.Case{on(0, 1, 0, 0, 0)}, api.ErrSequence},
		"Cut before Seen":          {[]api.Case{on(0, 1, 0, 0, 3001)}, api.ErrSequence},
		"Seen that goes below":     {[]api.Case{on(0, 0, 0, -3001, 0)}, api.ErrBounds},
		"Seen that goes above":     {[]api.Case{on(0, 0, 0, 0, 3001)}, api.ErrBounds},
		"Seen that ends first":     {[]api.Case{on(0, 0, 0, 1, 0)}, api.ErrSequence},
		"Seen before the shop":     {[]api.Case{on(2, 0, 0, 1, 0)}, api.ErrSequence},
		"dug out":                  {[]api.Case{on(ground, 0, 0, 0, 0)}, api.OK},
		"the last shop":            {[]api.Case{on(1, 0, 0, 0, 0)}, api.OK},
		"a shop that is none":      {[]api.Case{on(2, 0, 0, 0, 0)}, api.ErrAbsent},
		"a shop below -1":          {[]api.Case{on(-2, 0, 0, 0, 0)}, api.ErrAbsent},
		"the greatest shop":        {[]api.Case{on(math.MaxInt, 0, 0, 0, 0)}, api.ErrAbsent},
		"the least shop":           {[]api.Case{on(math.MinInt, 0, 0, 0, 0)}, api.ErrAbsent},
		"a shop before the next":   {[]api.Case{on(2, 0, 0, 0, 0), on(0, 3001, 0, 0, 0)}, api.ErrAbsent},
		"a case before the next":   {[]api.Case{good, on(0, 1, 0, 0, 0), on(0, 0, 0, 0, 0, 9)}, api.ErrSequence},
		"Cut after Seen is fine":   {[]api.Case{on(0, 9, 9, 1, 1)}, api.OK},
		"the last of six":          {append(slices.Repeat([]api.Case{good}, 5), on(0, 0, 0, 0, math.MinInt)), api.ErrBounds},
	} {
		checkErrors(t, name, with(func(d *api.Dossier) { d.Cases = c.cases }), c.want)
	}
	none := with(func(d *api.Dossier) { d.Shops, d.Most, d.Cases = 0, 4, []api.Case{on(0, 0, 0, 0, 0)} })
	checkErrors(t, "no shops", none, api.ErrAbsent)
	none.Cases[0].Shop = ground
	checkErrors(t, "no shops, dug out", none, api.OK)
}

// lone is a dossier of one shop, without traits.
func lone(begin, most int, cases ...api.Case) api.Dossier {
	return api.Dossier{Begin: begin, Most: most, Shops: 1, Cases: cases}
}

// bad is a case of a shop that is impossible by itself, and may be forged, doubtful one that may be genuine, too, and early one that nobody could have forged if Begin is 10.
func bad(shop int) api.Case      { return on(shop, 21, 30, 10, 20) }
func doubtful(shop int) api.Case { return on(shop, 5, 9, 10, 20) }
func early(shop int) api.Case    { return on(shop, 5, 9, 0, 9) }

// shops is a dossier of so many shops, without traits.
func shops(many, most int, cases ...api.Case) api.Dossier {
	return api.Dossier{Begin: 10, Most: most, Shops: many, Cases: cases}
}

func TestGenuineP8_1(t *testing.T) {
	for name, c := range map[string]struct {
		d              api.Dossier
		genuine, shops []int
	}{
		"D":                               {example(), []int{n, y, y, o}, []int{y, n}},
		"D with Most 2":                   {with(func(d *api.Dossier) { d.Most = 2 }), []int{n, o, y, o}, []int{y, o}},
		"D with Most 4":                   {with(func(d *api.Dossier) { d.Most = 4 }), []int{n, o, y, o}, []int{y, o}},
		"D with four shops":               {with(func(d *api.Dossier) { d.Shops, d.Most = 4, 3 }), []int{n, o, y, o}, []int{y, o, n, n}},
		"no shop":                         {shops(0, 4, on(ground, 0, 0, 0, 0)), []int{y}, nil},
		"no shop sold anything":           {shops(4, 4, on(ground, 0, 0, 0, 0)), []int{y}, []int{n, n, n, n}},
		"one, that may be either":         {lone(10, 1, on(0, 5, 8, 9, 12)), []int{o}, []int{o}},
		"one, as long as none forges":     {lone(10, 0, on(0, 5, 8, 9, 12)), []int{y}, []int{n}},
		"seen in the year Begin":          {lone(12, 1, on(0, 5, 8, 9, 12)), []int{o}, []int{o}},
		"seen before Begin":               {lone(13, 1, on(0, 5, 8, 9, 12)), []int{y}, []int{n}},
		"cut in the year it was seen":     {lone(10, 1, on(0, 12, 20, 9, 12)), []int{o}, []int{o}},
		"cut after it was seen":           {lone(10, 1, on(0, 13, 20, 9, 12)), []int{n}, []int{y}},
		"dug out in that year":            {lone(10, 1, on(ground, 12, 20, 9, 12)), []int{y}, []int{n}},
		"the first year, forged in it":    {lone(-3000, 1, on(0, -3000, -3000, -3000, -3000)), []int{o}, []int{o}},
		"the last year, forged in it":     {lone(3000, 1, on(0, 3000, 3000, 3000, 3000)), []int{o}, []int{o}},
		"all years":                       {lone(-3000, 1, on(0, -3000, 3000, -3000, 3000)), []int{o}, []int{o}},
		"cut last, seen first":            {lone(-3000, 1, on(0, 3000, 3000, -3000, -3000)), []int{n}, []int{y}},
		"either, but not both":            {shops(2, 1, doubtful(0), doubtful(1)), []int{o, o}, []int{o, o}},
		"either, or both":                 {shops(2, 2, doubtful(0), doubtful(1)), []int{o, o}, []int{o, o}},
		"two of three":                    {shops(3, 2, doubtful(0), bad(1), doubtful(2)), []int{o, n, o}, []int{o, y, o}},
		"one of three, and it is known":   {shops(3, 1, doubtful(0), bad(1), doubtful(2), doubtful(1)), []int{y, n, y, o}, []int{n, y, n}},
		"two of four, and they are known": {shops(4, 2, bad(3), doubtful(0), bad(1), doubtful(2), doubtful(3), doubtful(ground)), []int{n, y, n, y, o, y}, []int{n, y, n, y}},
		"all four":                        {shops(4, 4, bad(0), bad(1), bad(2), bad(3)), []int{n, n, n, n}, []int{y, y, y, y}},
		"three of four, and one may be":   {shops(4, 4, bad(0), bad(1), bad(2), doubtful(3)), []int{n, n, n, o}, []int{y, y, y, o}},
		"three of four, and no more":      {shops(4, 3, bad(0), bad(1), bad(2), doubtful(3)), []int{n, n, n, y}, []int{y, y, y, n}},
		"nobody could have forged it":     {shops(1, 1, early(0), doubtful(0)), []int{y, o}, []int{o}},
		"one shop, twice":                 {shops(1, 1, bad(0), bad(0), doubtful(0)), []int{n, n, o}, []int{y}},
	} {
		genuine, e := Genuine(c.d)
		shops, f := Shops(c.d)
		if e != api.OK || f != api.OK || !slices.Equal(genuine, c.genuine) || !slices.Equal(shops, c.shops) {
			t.Error(name, genuine, shops, e, f)
		}
	}
}

// TestShownP8_1 has one case, of years 5..9, that was seen from 10 to 20, and that shows traits.
func TestShownP8_1(t *testing.T) {
	for name, c := range map[string]struct {
		want   int
		traits []api.Trait
	}{
		"in use":                             {o, []api.Trait{trait(0, 0, 30, 30, 15, 15)}},
		"just in time":                       {o, []api.Trait{trait(9, 12, 30, 30, 15, 15)}},
		"too late":                           {n, []api.Trait{trait(10, 12, 30, 30, 15, 15)}},
		"just until then":                    {o, []api.Trait{trait(0, 0, 3, 5, 15, 15)}},
		"no longer":                          {n, []api.Trait{trait(0, 0, 3, 4, 15, 15)}},
		"known in the last year":             {o, []api.Trait{trait(0, 0, 30, 30, 20, 25)}},
		"known a year later":                 {y, []api.Trait{trait(0, 0, 30, 30, 21, 25)}},
		"known before it was forgotten":      {o, []api.Trait{trait(0, 0, 30, 30, -5, -1)}},
		"either order of From and Until":     {o, []api.Trait{trait(4, 9, 5, 8, 15, 15)}},
		"two that were in use together":      {o, []api.Trait{trait(0, 0, 6, 6, 15, 15), trait(6, 6, 30, 30, 15, 15)}},
		"two that were not":                  {n, []api.Trait{trait(0, 0, 6, 6, 15, 15), trait(7, 7, 30, 30, 15, 15)}},
		"three that meet":                    {o, []api.Trait{trait(0, 0, 7, 7, 15, 15), trait(7, 7, 30, 30, 15, 15), trait(3, 3, 8, 8, 15, 15)}},
		"three, the last two of which don't": {n, []api.Trait{trait(0, 0, 30, 30, 15, 15), trait(8, 8, 30, 30, 15, 15), trait(3, 3, 7, 7, 15, 15)}},
		"one of two that was not known":      {y, []api.Trait{trait(0, 0, 30, 30, 15, 15), trait(0, 0, 30, 30, 21, 21)}},
		"the first of two was not known":     {y, []api.Trait{trait(0, 0, 30, 30, 21, 21), trait(0, 0, 30, 30, 15, 15)}},
		"six traits":                         {o, slices.Repeat([]api.Trait{trait(0, 9, 5, 30, 20, 20)}, 6)},
		"six traits, the last is too late":   {n, append(slices.Repeat([]api.Trait{trait(0, 9, 5, 30, 20, 20)}, 5), trait(10, 10, 30, 30, 20, 20))},
	} {
		d := shops(1, 1, on(0, 5, 9, 10, 20, firstOnes(len(c.traits))...))
		d.Traits = c.traits
		if genuine, e := Genuine(d); e != api.OK || !slices.Equal(genuine, []int{c.want}) {
			t.Error(name, genuine, e)
		}
		d.Cases[0].Shows = nil
		if genuine, e := Genuine(d); e != api.OK || !slices.Equal(genuine, []int{o}) {
			t.Error(name, "not shown", genuine, e)
		}
	}
}

// firstOnes returns so many numbers from 0 on.
func firstOnes(many int) []int {
	var list []int
	for i := range many {
		list = append(list, i)
	}
	return list
}

// hopeless are dossiers that have no truth, however great Most were.
func hopeless() map[string]api.Dossier {
	return map[string]api.Dossier{
		"dug out, and impossible":         with(func(d *api.Dossier) { d.Cases[0].Shop = ground }),
		"impossible, and a trait unknown": with(func(d *api.Dossier) { d.Cases[0].Seen = to(1690, 1699) }),
		"impossible, and before Begin":    lone(13, 1, on(0, 20, 30, 9, 12)),
		"dug out before it was cut":       lone(10, 1, on(ground, 13, 14, 9, 12)),
		"a trait of no year":              with(func(d *api.Dossier) { d.Traits[2].From = to(401, 402) }),
		"a trait of no year, not shown":   {Traits: []api.Trait{trait(6, 6, 5, 5, 0, 0)}, Cases: []api.Case{on(ground, 0, 0, 0, 0)}},
		"the last trait of no year":       {Traits: append(make([]api.Trait, 5), trait(1, 1, 0, 0, 0, 0)), Shops: 4, Most: 4, Cases: []api.Case{on(0, 0, 0, 0, 0)}},
		"one of six":                      shops(4, 4, bad(0), bad(1), bad(2), bad(3), bad(0), bad(ground)),
		"no shops":                        shops(0, 4, bad(ground)),
	}
}

func TestClashP8_1(t *testing.T) {
	clashes := hopeless()
	for name, d := range clashes {
		if list, e := Fewest(d); list != nil || e != api.ErrClash {
			t.Error(name, list, e)
		}
	}
	clashes["D with Most 0"] = with(func(d *api.Dossier) { d.Most = 0 })
	clashes["two shops, Most 1"] = shops(2, 1, bad(0), bad(1))
	clashes["three shops, Most 2"] = shops(4, 2, bad(3), bad(0), bad(1), doubtful(2))
	clashes["four shops, Most 3"] = shops(4, 3, bad(0), bad(1), bad(2), bad(3))
	clashes["four shops, Most 0"] = shops(4, 0, bad(0), bad(1), bad(2), bad(3))
	for name, d := range clashes {
		genuine, e := Genuine(d)
		shops, f := Shops(d)
		traits, g := Traits(d)
		if genuine != nil || shops != nil || traits != nil || e != api.ErrClash || f != e || g != e || Check(d) != api.OK {
			t.Error(name, genuine, shops, traits, e, f, g)
		}
	}
}

func TestTraitsP8_1(t *testing.T) {
	d := example().Traits
	second := trait(50, 60, 92, 95, 1700, 1720)
	dug := func(shows ...api.Trait) api.Dossier {
		return api.Dossier{Traits: shows, Cases: []api.Case{on(ground, 5, 9, 7, 20, firstOnes(len(shows))...)}}
	}
	forged := func(first, last int, traits ...api.Trait) api.Dossier {
		return api.Dossier{Begin: 10, Most: 1, Shops: 1, Traits: traits, Cases: []api.Case{on(0, last+1, last+1, first, last, firstOnes(len(traits))...)}}
	}
	for name, c := range map[string]struct {
		d    api.Dossier
		want []api.Trait
	}{
		"D":                               {example(), []api.Trait{d[0], second, d[2]}},
		"D with Most 2":                   {with(func(d *api.Dossier) { d.Most = 2 }), []api.Trait{d[0], second, d[2]}},
		"D, narrowed by a genuine one":    {with(func(d *api.Dossier) { d.Cases[1].Cut = to(105, 110) }), []api.Trait{trait(100, 110, 300, 350, 1500, 1520), second, d[2]}},
		"D, if that one may be forged":    {with(func(d *api.Dossier) { d.Most, d.Cases[1].Cut = 2, to(105, 110) }), []api.Trait{d[0], second, d[2]}},
		"D, and its last year":            {with(func(d *api.Dossier) { d.Cases[1].Cut = to(330, 340) }), []api.Trait{trait(100, 120, 330, 350, 1500, 1520), second, d[2]}},
		"no traits":                       {shops(1, 1, doubtful(0)), nil},
		"a trait that is not shown":       {api.Dossier{Traits: []api.Trait{trait(0, 3, 50, 60, 7, 8)}, Cases: []api.Case{on(ground, 5, 9, 7, 20)}}, []api.Trait{trait(0, 3, 50, 60, 7, 8)}},
		"From goes on behind Until":       {api.Dossier{Traits: []api.Trait{trait(0, 9, 5, 7, 0, 0)}, Cases: []api.Case{{Shop: ground}}}, []api.Trait{trait(0, 7, 5, 7, 0, 0)}},
		"Until begins before From":        {api.Dossier{Traits: []api.Trait{trait(6, 9, 5, 20, 0, 0)}, Cases: []api.Case{{Shop: ground}}}, []api.Trait{trait(6, 9, 6, 20, 0, 0)}},
		"both":                            {api.Dossier{Traits: []api.Trait{trait(6, 9, 5, 7, 0, 0)}, Cases: []api.Case{{Shop: ground}}}, []api.Trait{trait(6, 7, 6, 7, 0, 0)}},
		"one year":                        {api.Dossier{Traits: []api.Trait{trait(7, 9, 5, 7, 0, 0)}, Cases: []api.Case{{Shop: ground}}}, []api.Trait{trait(7, 7, 7, 7, 0, 0)}},
		"dug out":                         {dug(trait(0, 30, 0, 30, 0, 9)), []api.Trait{trait(0, 9, 5, 30, 0, 9)}},
		"dug out, of one year":            {dug(trait(9, 30, 0, 30, 0, 9)), []api.Trait{trait(9, 9, 9, 30, 0, 9)}},
		"dug out, up to one year":         {dug(trait(0, 30, 0, 5, 0, 9)), []api.Trait{trait(0, 5, 5, 5, 0, 9)}},
		"dug out, cut before it was seen": {api.Dossier{Traits: []api.Trait{trait(0, 30, 0, 30, 0, 9)}, Cases: []api.Case{on(ground, 5, 19, 7, 8, 0)}}, []api.Trait{trait(0, 8, 5, 30, 0, 9)}},
		"dug out, with another trait":     {dug(trait(0, 30, 0, 30, 0, 9), trait(6, 7, 8, 8, 0, 9)), []api.Trait{trait(0, 8, 6, 30, 0, 9), trait(6, 7, 8, 8, 0, 9)}},
		"dug out, traits of both sides":   {dug(trait(0, 30, 7, 7, 0, 9), trait(7, 7, 0, 30, 0, 9)), []api.Trait{trait(0, 7, 7, 7, 0, 9), trait(7, 7, 7, 30, 0, 9)}},
		"forged":                          {forged(12, 15, trait(0, 9, 0, 9, 5, 30)), []api.Trait{trait(0, 9, 0, 9, 5, 15)}},
		"forged, just known":              {forged(12, 15, trait(0, 9, 0, 9, 15, 30)), []api.Trait{trait(0, 9, 0, 9, 15, 15)}},
		"forged, known for long":          {forged(12, 15, trait(0, 9, 0, 9, 1, 14)), []api.Trait{trait(0, 9, 0, 9, 1, 14)}},
		"forged, two traits":              {forged(12, 15, trait(0, 9, 0, 9, 5, 30), trait(0, 9, 0, 9, 2, 3)), []api.Trait{trait(0, 9, 0, 9, 5, 15), trait(0, 9, 0, 9, 2, 3)}},
		"two that are dug out":            {api.Dossier{Traits: []api.Trait{trait(0, 30, 0, 30, 0, 9)}, Cases: []api.Case{on(ground, 5, 12, 40, 40, 0), on(ground, 8, 19, 40, 40, 0)}}, []api.Trait{trait(0, 12, 8, 30, 0, 9)}},
		"two that are apart":              {api.Dossier{Traits: []api.Trait{trait(0, 30, 0, 30, 0, 9)}, Cases: []api.Case{on(ground, 15, 16, 40, 40, 0), on(ground, 3, 4, 40, 40, 0)}}, []api.Trait{trait(0, 4, 15, 30, 0, 9)}},
		"all years":                       {api.Dossier{Begin: -3000, Most: 4, Shops: 4, Traits: []api.Trait{trait(-3000, 3000, -3000, 3000, -3000, 3000)}, Cases: []api.Case{on(0, -3000, 3000, -3000, 3000, 0)}}, []api.Trait{trait(-3000, 3000, -3000, 3000, -3000, 3000)}},
		"all years, one genuine":          {api.Dossier{Begin: -3000, Most: 4, Shops: 4, Traits: []api.Trait{trait(-3000, 3000, -3000, 3000, -3000, 3000)}, Cases: []api.Case{on(ground, -3000, -3000, -3000, 3000, 0)}}, []api.Trait{trait(-3000, -3000, -3000, 3000, -3000, 3000)}},
		"one or the other may be genuine": {api.Dossier{Begin: 10, Most: 1, Shops: 2, Traits: []api.Trait{trait(0, 30, 40, 50, 0, 15)}, Cases: []api.Case{on(0, 5, 6, 12, 12, 0), on(1, 8, 9, 13, 13, 0)}}, []api.Trait{trait(0, 9, 40, 50, 0, 15)}},
	} {
		if list, e := Traits(c.d); e != api.OK || !slices.Equal(list, c.want) {
			t.Error(name, list, e)
		}
	}
}

func TestWhyP8_2(t *testing.T) {
	claims := func(low, high int) api.Dossier {
		return with(func(d *api.Dossier) { d.Cases[0].Cut = to(low, high) })
	}
	for name, c := range map[string]struct {
		d                api.Dossier
		c, first, second int
		e                api.Errno
	}{
		"D":                             {example(), 0, 0, 1, api.OK},
		"D, possible":                   {example(), 3, 0, 0, api.ErrNone},
		"D, possible, too":              {example(), 1, 0, 0, api.ErrNone},
		"D with Cut 10..40":             {claims(10, 40), 0, -2, 0, api.OK},
		"D with Cut 96..200":            {claims(96, 200), 0, -2, 1, api.OK},
		"D with Cut 95..200":            {claims(95, 200), 0, 0, 1, api.OK},
		"D with Cut 351..400":           {claims(351, 400), 0, -2, 0, api.OK},
		"D with Cut 1720..1800":         {claims(1720, 1800), 0, -2, 0, api.OK},
		"D with Cut 1721..1800":         {claims(1721, 1800), 0, -2, -1, api.OK},
		"seen before a trait":           {with(func(d *api.Dossier) { d.Cases[3].Cut, d.Cases[3].Seen = to(99, 110), to(90, 99) }), 3, -1, 0, api.OK},
		"seen in its first year":        {with(func(d *api.Dossier) { d.Cases[3].Cut, d.Cases[3].Seen = to(99, 110), to(90, 100) }), 3, 0, 0, api.ErrNone},
		"seen before the second trait":  {with(func(d *api.Dossier) { d.Cases[2].Cut, d.Cases[2].Seen = to(0, 60), to(0, 49) }), 2, -1, 1, api.OK},
		"a trait of no year":            {with(func(d *api.Dossier) { d.Traits[0].From = to(351, 360) }), 3, -2, 0, api.OK},
		"the second trait of no year":   {with(func(d *api.Dossier) { d.Traits[1].Until = to(-50, 49) }), 0, -2, 1, api.OK},
		"a trait of no year, not shown": {with(func(d *api.Dossier) { d.Traits[0].From = to(351, 360) }), 2, 0, 0, api.ErrNone},
		"no trait":                      {lone(0, 0, on(0, 1, 2, 3, 4)), 0, 0, 0, api.ErrNone},
		"no trait, cut too late":        {lone(0, 0, on(0, 5, 6, 3, 4)), 0, -2, -1, api.OK},
		"dug out, cut too late":         {lone(0, 0, on(ground, 5, 6, 3, 4)), 0, -2, -1, api.OK},
		"ErrNone, however little Most":  {with(func(d *api.Dossier) { d.Most = 0 }), 3, 0, 0, api.ErrNone},
		"a witness, whatever Most":      {with(func(d *api.Dossier) { d.Most = 0 }), 0, 0, 1, api.OK},
		"no case":                       {example(), 4, 0, 0, api.ErrAbsent},
		"below 0":                       {example(), -1, 0, 0, api.ErrAbsent},
		"the greatest":                  {example(), math.MaxInt, 0, 0, api.ErrAbsent},
		"the least":                     {example(), math.MinInt, 0, 0, api.ErrAbsent},
		"no case of a clash":            {with(func(d *api.Dossier) { d.Most = 0 }), 4, 0, 0, api.ErrAbsent},
		"not valid":                     {with(func(d *api.Dossier) { d.Most = -1 }), 0, 0, 0, api.ErrBounds},
		"no case of what is not valid":  {with(func(d *api.Dossier) { d.Most = -1 }), 4, 0, 0, api.ErrBounds},
	} {
		if first, second, e := Why(c.d, c.c); first != c.first || second != c.second || e != c.e {
			t.Error(name, first, second, e)
		}
	}
}

// TestSeveralPairsP8_2 has years of genuineness of which several pairs contradict each other.
func TestSeveralPairsP8_2(t *testing.T) {
	all := []api.Trait{trait(0, 0, 9, 9, 0, 0), trait(20, 20, 29, 29, 0, 0), trait(5, 5, 24, 24, 0, 0), trait(30, 30, 39, 39, 0, 0), trait(9, 9, 1, 1, 0, 0), trait(0, 0, 99, 99, 0, 0)}
	for i, c := range []struct {
		one           api.Case
		first, second int
	}{
		{on(0, 0, 99, 0, 99, 0, 1, 2, 3, 5), 0, 1},
		{on(0, 0, 99, 0, 99, 0, 2, 3, 5), 0, 3},
		{on(0, 0, 99, 0, 99, 1, 2, 3), 1, 3},
		{on(0, 0, 99, 0, 99, 2, 3, 5), 2, 3},
		{on(0, 0, 99, 0, 99, 0, 2, 5), 0, 0},
		{on(0, 0, 99, 0, 25, 0, 1, 3), -1, 3},
		{on(0, 0, 99, 0, 19, 0, 1, 3), -1, 1},
		{on(0, 10, 19, 0, 19, 0, 1, 3), -2, 0},
		{on(0, 10, 19, 0, 9, 0, 1, 3), -2, -1},
		{on(0, 5, 9, 0, 19, 0, 1, 3), -2, 1},
		{on(0, 25, 30, 0, 99, 1, 2, 3), -2, 2},
		{on(0, 0, 99, 0, 99, 0, 1, 4), -2, 4},
		{on(0, 0, 99, 0, 19, 1, 4), -2, 4},
		{on(0, 100, 110, 0, 120, 4, 5), -2, 4},
		{on(0, 100, 110, 0, 120, 5), -2, 5},
	} {
		d := api.Dossier{Begin: 0, Most: 1, Shops: 1, Traits: all, Cases: []api.Case{c.one}}
		first, second, e := Why(d, 0)
		if c.first == c.second {
			if first != 0 || second != 0 || e != api.ErrNone {
				t.Error(i, first, second, e)
			}
		} else if first != c.first || second != c.second || e != api.OK {
			t.Error(i, first, second, e)
		}
	}
}

func TestKnewP8_3(t *testing.T) {
	seen := func(c, low, high int) api.Dossier {
		return with(func(d *api.Dossier) { d.Cases[c].Seen = to(low, high) })
	}
	for name, c := range map[string]struct {
		d    api.Dossier
		c    int
		want []int
		e    api.Errno
	}{
		"D":                           {example(), 0, nil, api.OK},
		"D, the second":               {example(), 1, nil, api.OK},
		"D, dug out":                  {example(), 2, []int{1}, api.OK},
		"D with Seen 1450..1490":      {seen(1, 1450, 1490), 1, []int{0}, api.OK},
		"in the year before":          {seen(1, 1300, 1499), 1, []int{0}, api.OK},
		"in the first year":           {seen(1, 1300, 1500), 1, nil, api.OK},
		"both":                        {seen(1, 1300, 1399), 1, []int{0, 2}, api.OK},
		"in the year of the second":   {seen(1, 1300, 1400), 1, []int{0}, api.OK},
		"no trait":                    {lone(0, 1, on(0, 0, 0, 0, 0)), 0, nil, api.OK},
		"all six":                     {api.Dossier{Shops: 1, Traits: slices.Repeat([]api.Trait{trait(0, 0, 0, 0, 1, 1)}, 6), Cases: []api.Case{on(0, 0, 0, 0, 0, 0, 1, 2, 3, 4, 5)}}, 0, []int{0, 1, 2, 3, 4, 5}, api.OK},
		"that is not shown":           {api.Dossier{Shops: 1, Traits: slices.Repeat([]api.Trait{trait(0, 0, 0, 0, 1, 1)}, 6), Cases: []api.Case{on(0, 0, 0, 0, 0, 1, 4)}}, 0, []int{1, 4}, api.OK},
		"of a dossier without truths": {hopeless()["impossible, and a trait unknown"], 0, []int{1}, api.OK},
		"no case":                     {example(), 4, nil, api.ErrAbsent},
		"below 0":                     {example(), -1, nil, api.ErrAbsent},
		"the greatest":                {example(), math.MaxInt, nil, api.ErrAbsent},
		"the least":                   {example(), math.MinInt, nil, api.ErrAbsent},
		"not valid":                   {with(func(d *api.Dossier) { d.Begin = 9999 }), 9, nil, api.ErrBounds},
	} {
		if list, e := Knew(c.d, c.c); e != c.e || !slices.Equal(list, c.want) {
			t.Error(name, list, e)
		}
	}
}

func TestFewestP8_4(t *testing.T) {
	for name, c := range map[string]struct {
		d    api.Dossier
		want []int
	}{
		"D":                          {example(), []int{0}},
		"D with Most 0":              {with(func(d *api.Dossier) { d.Most = 0 }), []int{0}},
		"D with Most 4":              {with(func(d *api.Dossier) { d.Most = 4 }), []int{0}},
		"D with the shop 1":          {with(func(d *api.Dossier) { d.Cases[0].Shop = 1 }), []int{1}},
		"none":                       {shops(4, 4, doubtful(0), doubtful(1), doubtful(2), doubtful(3)), nil},
		"none, without shops":        {shops(0, 0, on(ground, 0, 0, 0, 0)), nil},
		"the last one":               {shops(4, 4, doubtful(0), doubtful(1), doubtful(2), bad(3)), []int{3}},
		"the last one, for Most 0":   {shops(4, 0, doubtful(0), doubtful(1), doubtful(2), bad(3)), []int{3}},
		"two, ascending":             {shops(4, 1, bad(3), doubtful(0), bad(1), doubtful(2)), []int{1, 3}},
		"three":                      {shops(4, 0, bad(3), bad(0), bad(2), doubtful(1)), []int{0, 2, 3}},
		"all four":                   {shops(4, 0, bad(3), bad(2), bad(1), bad(0)), []int{0, 1, 2, 3}},
		"one that sold several":      {shops(2, 0, bad(1), bad(1), doubtful(1), bad(1)), []int{1}},
		"nobody could have forged 0": {shops(2, 0, early(0), bad(1)), []int{1}},
	} {
		if list, e := Fewest(c.d); e != api.OK || !slices.Equal(list, c.want) {
			t.Error(name, list, e)
		}
	}
}

// TestLeastP8_4 has lists in all orders, of which some are equally long.
func TestLeastP8_4(t *testing.T) {
	for i, c := range []struct {
		lists [][]int
		want  []int
	}{
		{[][]int{{1}, {0}}, []int{0}},
		{[][]int{{0}, {1}}, []int{0}},
		{[][]int{{0, 1}, {3}, {2}}, []int{2}},
		{[][]int{{1, 2}, {0, 3}, {0, 2}, {2, 3}}, []int{0, 2}},
		{[][]int{{0, 1, 2}, {1, 2}, {1, 3}}, []int{1, 2}},
		{[][]int{{0}, nil}, nil},
		{[][]int{nil, {0}}, nil},
	} {
		if list, found := least(slices.Values(c.lists), compare); !found || !slices.Equal(list, c.want) {
			t.Error(i, list, found)
		}
	}
	if list, found := least(slices.Values([][]int(nil)), compare); found || list != nil {
		t.Error(list, found)
	}
}

// wild are numbers far outside all limits, and some within.
func wild(i int) int {
	list := []int{0, 1, 2, 3, 4, 5, -1, -2, 6, 2999, 3000, 3001, -2999, -3000, -3001, math.MinInt, math.MinInt + 5, math.MaxInt, math.MaxInt - 5}
	return list[(i%len(list)+len(list))%len(list)]
}

// tame is a wild number now and then, and otherwise one within the limits.
func tame(i, low, high int) int {
	if i%97 == 0 {
		return wild(i / 97)
	}
	return low + (i%(high-low+1)+high-low+1)%(high-low+1)
}

// anyDossier returns a dossier most of which is within the limits.
func anyDossier(i int) api.Dossier {
	d := api.Dossier{Begin: tame(i*7, -100, 100), Most: tame(i/2, 0, 4), Shops: tame(i/3, 0, 4)}
	span := func(i int) api.Span {
		low := tame(i, -200, 100)
		return to(low, low+tame(i*3+1, 0, 100))
	}
	for k := range i % 8 {
		d.Traits = append(d.Traits, api.Trait{From: span(i*5 + k), Until: span(i*11 + k*2), Known: span(i*13 + k*3)})
	}
	for k := range i / 7 % 8 {
		c := api.Case{Cut: span(i*17 + k), Seen: span(i*19 + k), Shop: tame(i*23+k, -1, max(-1, d.Shops-1)%5)}
		for j := range i / 5 % 4 {
			c.Shows = append(c.Shows, tame(i*29+j, j, j+1))
		}
		d.Cases = append(d.Cases, c)
	}
	return d
}

func TestAnyArgumentsP1(t *testing.T) {
	valid := 0
	for i := range 40000 {
		d := anyDossier(i)
		errors, left := errorsOf(d, wild(i/3))
		if errors[0] == api.OK {
			valid++
		} else if left || slices.Min(errors) != errors[0] || slices.Max(errors) != errors[0] {
			t.Fatal(i, d, errors)
		}
	}
	if valid < 2000 {
		t.Error("too few are valid:", valid)
	}
}

// TestStoppedP1 stops while choices and truths are handed out.
func TestStoppedP1(t *testing.T) {
	handed := 0
	for range choices(3) {
		handed++
		break
	}
	for range truths(example(), 1) {
		handed++
		break
	}
	if handed != 2 {
		t.Error(handed)
	}
}

func TestAnyDossiersP1(t *testing.T) {
	bytes := []byte("dosierta/cuhgn0-12 *\n \xff\x00")
	text, _ := Write(example())
	for i := range 30000 {
		dossier := []byte(text)
		dossier[i*7%len(dossier)] = bytes[i%len(bytes)]
		dossier[i/7%len(dossier)] = bytes[i/5%len(bytes)]
		d, line, e := Read(string(dossier[i%3/2:]))
		if e != api.OK && !reflect.DeepEqual(d, api.Dossier{}) || line != 0 && e != api.ErrShape || e == api.OK && Check(d) != api.OK {
			t.Fatal(i, string(dossier), d, line, e)
		}
	}
}

func TestArgumentsStayR4(t *testing.T) {
	for i, s := range smalls()[:500] {
		d := cloned(s.d)
		errorsOf(s.d, 0)
		errorsOf(s.d, len(s.d.Cases)-1)
		if !reflect.DeepEqual(d, s.d) {
			t.Fatal(i, d, s.d)
		}
	}
}

// TestResultsApartR4 changes results, which must change neither an argument nor another result.
func TestResultsApartR4(t *testing.T) {
	d := with(func(d *api.Dossier) { d.Cases[1].Seen = to(1300, 1399) })
	text, _ := Write(d)
	read, _, _ := Read(text)
	for _, c := range read.Cases {
		_ = append(c.Shows, 9)
	}
	if !reflect.DeepEqual(read, d) {
		t.Error(read)
	}
	before, _ := tell(d)
	for range 2 {
		all, _ := tell(d)
		secrets, _ := Knew(d, 1)
		fewest, _ := Fewest(d)
		if !all.same(before) || !slices.Equal(secrets, []int{0, 2}) || !slices.Equal(fewest, []int{0}) {
			t.Error(all, secrets, fewest)
		}
		clear(all.genuine)
		clear(all.shops)
		clear(all.traits)
		clear(secrets)
		clear(fewest)
		clear(read.Cases[0].Shows)
		read, _, _ = Read(text)
	}
	if !reflect.DeepEqual(read, d) || !reflect.DeepEqual(d, with(func(d *api.Dossier) { d.Cases[1].Seen = to(1300, 1399) })) {
		t.Error(read, d)
	}
}

func TestNilAsEmptyR4(t *testing.T) {
	a := with(func(d *api.Dossier) { d.Traits, d.Cases = nil, []api.Case{{}} })
	b := with(func(d *api.Dossier) { d.Traits, d.Cases = []api.Trait{}, []api.Case{{Shows: []int{}}} })
	s, e := Write(a)
	text, f := Write(b)
	if s != text || e != api.OK || f != api.OK {
		t.Error(s, text, e, f)
	}
	first, e := tell(a)
	second, f := tell(b)
	if e != f || !first.same(second) {
		t.Error(first, second, e, f)
	}
}
