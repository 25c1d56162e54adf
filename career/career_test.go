package career

import (
	"math"
	"reflect"
	"slices"
	"testing"

	"cippus/api"
)

// errorsOf returns what each function that takes a roll says is wrong, and whether any other result is not a zero value.
func errorsOf(r api.Roll, a, b int) (list []api.Errno, left bool) {
	born, died, e1 := Lives(r)
	when, e2 := Years(r)
	is, e3 := Same(r, a, b)
	wrong, e4 := Wrong(r)
	text, e5 := Write(r)
	left = born != nil || died != nil || when != nil || is || wrong != nil || text != ""
	return []api.Errno{Check(r), e1, e2, e3, e4, e5}, left
}

// checkErrors tests that a roll has that error, by Check and by all functions that return Check's error.
func checkErrors(t *testing.T, name string, r api.Roll, want api.Errno) {
	t.Helper()
	if e := Check(r); e != want {
		t.Error(name, e, want)
	}
	if want == api.OK {
		return
	}
	// Men that are none, or the same one, come later.
	for _, men := range [][2]int{{0, 1}, {-1, 9}, {0, 0}} {
		if errors, left := errorsOf(r, men[0], men[1]); left || slices.Min(errors) != want || slices.Max(errors) != want {
			t.Error(name, errors, left)
		}
	}
}

// offices returns the roll R with other offices, without its records.
func offices(list ...api.Office) api.Roll {
	return with(func(r *api.Roll) { r.Offices, r.Records = list, nil })
}

func ages(life, low, high int) api.Roll {
	return with(func(r *api.Roll) { r.Life, r.Parents = life, to(low, high) })
}

func TestCheckP6_1(t *testing.T) {
	great := api.Office{Age: 100, Gap: 100, Again: 100}
	for name, c := range map[string]struct {
		r    api.Roll
		want api.Errno
	}{
		"R":                         {example(), api.OK},
		"R with Life 101":           {ages(101, 15, 60), api.ErrBounds},
		"R with the town 2":         {with(func(r *api.Roll) { r.Records[0].Town = 2 }), api.ErrAbsent},
		"R with -40..-48":           {with(func(r *api.Roll) { r.Records[1].When = to(-40, -48) }), api.ErrSequence},
		"nothing":                   {api.Roll{}, api.ErrBounds},
		"no offices":                {offices(), api.OK},
		"five offices":              {offices(slices.Repeat([]api.Office{great}, 5)...), api.OK},
		"six offices":               {offices(slices.Repeat([]api.Office{great}, 6)...), api.ErrMany},
		"many before bounds":        {offices(make([]api.Office, 6)...), api.ErrMany},
		"the least office":          {offices(api.Office{Again: 1}), api.OK},
		"an age below 0":            {offices(great, api.Office{Age: -1, Again: 1}), api.ErrBounds},
		"an age above":              {offices(api.Office{Age: 101, Again: 1}), api.ErrBounds},
		"a gap below 0":             {offices(api.Office{Gap: -1, Again: 1}), api.ErrBounds},
		"a gap above":               {offices(great, great, great, great, api.Office{Gap: 101, Again: 1}), api.ErrBounds},
		"again 0":                   {offices(api.Office{Age: 1, Gap: 1}), api.ErrBounds},
		"again below 0":             {offices(api.Office{Again: -1}), api.ErrBounds},
		"again above":               {offices(api.Office{Again: 101}), api.ErrBounds},
		"the greatest office":       {offices(api.Office{Age: math.MaxInt, Gap: math.MinInt, Again: 1}), api.ErrBounds},
		"offices before life":       {with(func(r *api.Roll) { r.Offices, r.Parents = make([]api.Office, 6), to(2, 1) }), api.ErrMany},
		"an office before parents":  {with(func(r *api.Roll) { r.Offices[1].Again, r.Parents = 0, to(2, 1) }), api.ErrBounds},
		"Life 0":                    {ages(0, 1, 1), api.OK},
		"Life 100":                  {ages(100, 100, 100), api.OK},
		"Life below 0":              {ages(-1, 1, 1), api.ErrBounds},
		"the greatest Life":         {ages(math.MaxInt, 1, 1), api.ErrBounds},
		"Life before parents":       {ages(101, 2, 1), api.ErrBounds},
		"parents from 1 to 100":     {ages(90, 1, 100), api.OK},
		"parents of no years":       {ages(90, 0, 60), api.ErrBounds},
		"parents above":             {ages(90, 15, 101), api.ErrBounds},
		"parents below 0":           {ages(90, -5, -1), api.ErrBounds},
		"bounds before sequence":    {ages(90, 101, 60), api.ErrBounds},
		"parents that end first":    {ages(90, 16, 15), api.ErrSequence},
		"parents before towns":      {with(func(r *api.Roll) { r.Parents, r.Far = to(16, 15), nil }), api.ErrSequence},
		"towns before men":          {with(func(r *api.Roll) { r.Far, r.Men = nil, make([]api.Man, 7) }), api.ErrFew},
		"a town before men":         {with(func(r *api.Roll) { r.Far[1][1], r.Men = true, nil }), api.ErrShape},
		"many records before error": {recorded(make([]api.Record, 9)...), api.ErrMany},
		"eight records":             {recorded(slices.Repeat([]api.Record{held(0, 0, 0, 1, 2)}, 8)...), api.OK},
		"nine records":              {recorded(slices.Repeat([]api.Record{held(0, 0, 0, 1, 2)}, 9)...), api.ErrMany},
		"nine records of none":      {recorded(slices.Repeat([]api.Record{held(9, 0, 0, 1, 2)}, 9)...), api.ErrMany},
		"no records":                {recorded(), api.OK},
		"a man before records":      {with(func(r *api.Roll) { r.Men[1].Died, r.Records = to(2, 1), make([]api.Record, 9) }), api.ErrSequence},
	} {
		checkErrors(t, name, c.r, c.want)
	}
}

func TestTownsP6_1(t *testing.T) {
	no, yes := false, true
	for name, c := range map[string]struct {
		far  [][]bool
		want api.Errno
	}{
		"none":                      {nil, api.ErrFew},
		"an empty list of towns":    {[][]bool{}, api.ErrFew},
		"one town":                  {[][]bool{{no}}, api.OK},
		"four towns":                {apartAll(4), api.OK},
		"four towns that are near":  {[][]bool{{no, no, no, no}, {no, no, no, no}, {no, no, no, no}, {no, no, no, no}}, api.OK},
		"some that are far":         {[][]bool{{no, yes, no}, {yes, no, no}, {no, no, no}}, api.OK},
		"five towns":                {apartAll(5), api.ErrMany},
		"many before shape":         {make([][]bool, 5), api.ErrMany},
		"a town far from itself":    {[][]bool{{yes}}, api.ErrShape},
		"the last far from itself":  {[][]bool{{no, no}, {no, yes}}, api.ErrShape},
		"no elements":               {[][]bool{{}}, api.ErrShape},
		"one too few":               {[][]bool{{no, yes}, {yes}}, api.ErrShape},
		"one too few, at first":     {[][]bool{{no}, {no, no}}, api.ErrShape},
		"one too many":              {[][]bool{{no, yes, no}, {yes, no}}, api.ErrShape},
		"one too many, at last":     {[][]bool{{no, yes}, {yes, no, no}}, api.ErrShape},
		"one too many, for one":     {[][]bool{{no, no}}, api.ErrShape},
		"far from one side":         {[][]bool{{no, yes}, {no, no}}, api.ErrShape},
		"far from the other side":   {[][]bool{{no, no}, {yes, no}}, api.ErrShape},
		"the last two, one side":    {[][]bool{{no, no, no}, {no, no, yes}, {no, no, no}}, api.ErrShape},
		"the first and the last":    {[][]bool{{no, no, no}, {no, no, no}, {yes, no, no}}, api.ErrShape},
		"four towns, the last two":  {[][]bool{{no, no, no, no}, {no, no, no, no}, {no, no, no, no}, {no, no, yes, no}}, api.ErrShape},
		"a list that is not there":  {[][]bool{{no, no}, nil}, api.ErrShape},
		"a list that is not at all": {[][]bool{nil, {no, no}}, api.ErrShape},
	} {
		checkErrors(t, name, with(func(r *api.Roll) { r.Far, r.Records = c.far, nil }), c.want)
		if c.want != api.OK {
			checkErrors(t, name+", before men", with(func(r *api.Roll) { r.Far, r.Men = c.far, nil }), c.want)
		}
	}
}

func TestMenP6_1(t *testing.T) {
	man := func(name, born, until, died, end int) api.Man {
		return api.Man{Name: name, Born: to(born, until), Died: to(died, end)}
	}
	good := man(9, -3000, 3000, -3000, 3000)
	for name, c := range map[string]struct {
		men  []api.Man
		want api.Errno
	}{
		"none":                      {nil, api.ErrFew},
		"an empty list of men":      {[]api.Man{}, api.ErrFew},
		"one man":                   {[]api.Man{{}}, api.OK},
		"six men":                   {slices.Repeat([]api.Man{good}, 6), api.OK},
		"seven men":                 {slices.Repeat([]api.Man{good}, 7), api.ErrMany},
		"many before bounds":        {slices.Repeat([]api.Man{{Name: 10}}, 7), api.ErrMany},
		"a name below 0":            {[]api.Man{good, man(-1, 0, 0, 0, 0)}, api.ErrBounds},
		"a name above":              {[]api.Man{man(10, 0, 0, 0, 0)}, api.ErrBounds},
		"the greatest name":         {[]api.Man{man(math.MaxInt, 0, 0, 0, 0)}, api.ErrBounds},
		"the name first":            {[]api.Man{man(10, 2, 1, 0, 0)}, api.ErrBounds},
		"born below":                {[]api.Man{man(0, -3001, 0, 0, 0)}, api.ErrBounds},
		"born above":                {[]api.Man{man(0, 0, 3001, 0, 0)}, api.ErrBounds},
		"born in between":           {[]api.Man{man(0, 3001, 3000, 0, 0)}, api.ErrBounds},
		"born at last first":        {[]api.Man{good, man(0, 2, 1, 0, 0)}, api.ErrSequence},
		"born before died":          {[]api.Man{man(0, 2, 1, 0, 3001)}, api.ErrSequence},
		"born before died, bounds":  {[]api.Man{man(0, 2, 3001, 2, 1)}, api.ErrBounds},
		"died below":                {[]api.Man{man(0, 0, 0, -3001, 0)}, api.ErrBounds},
		"died above":                {[]api.Man{good, good, man(0, 0, 0, 0, 3001)}, api.ErrBounds},
		"died at last first":        {[]api.Man{man(0, 0, 0, 2, 1)}, api.ErrSequence},
		"died before born":          {[]api.Man{man(0, 5, 6, 1, 2)}, api.OK},
		"man by man":                {[]api.Man{man(0, 0, 0, 2, 1), man(10, 0, 0, 0, 0)}, api.ErrSequence},
		"man by man, the other way": {[]api.Man{man(10, 0, 0, 0, 0), man(0, 0, 0, 2, 1)}, api.ErrBounds},
	} {
		checkErrors(t, name, with(func(r *api.Roll) { r.Men, r.Records = c.men, nil }), c.want)
		if c.want != api.OK {
			checkErrors(t, name+", before records", with(func(r *api.Roll) { r.Men, r.Records = c.men, []api.Record{held(-1, -2, -1, 2, 1)} }), c.want)
		}
	}
}

// TestRecordsP6_1 has a record among others.
func TestRecordsP6_1(t *testing.T) {
	when := to(0, 0)
	for name, c := range map[string]struct {
		rec  api.Record
		want api.Errno
	}{
		"the greatest":               {held(1, 1, 1, -3000, 3000), api.OK},
		"the least":                  {held(0, -1, 0, -3000, -3000), api.OK},
		"seen":                       {held(1, -1, 1, 3000, 3000), api.OK},
		"no such man":                {held(2, 0, 0, 0, 0), api.ErrAbsent},
		"a man below 0":              {held(-1, 0, 0, 0, 0), api.ErrAbsent},
		"the greatest man":           {held(math.MaxInt, 0, 0, 0, 0), api.ErrAbsent},
		"no such man, before child":  {api.Record{Man: 2, Child: 1, When: to(2, 1)}, api.ErrAbsent},
		"no such office":             {held(0, 2, 0, 0, 0), api.ErrAbsent},
		"an office below -1":         {held(0, -2, 0, 0, 0), api.ErrAbsent},
		"the least office":           {held(0, math.MinInt, 0, 0, 0), api.ErrAbsent},
		"office before child":        {api.Record{Office: 2, Child: 1}, api.ErrAbsent},
		"no such town":               {held(0, 0, 2, 0, 0), api.ErrAbsent},
		"a town below 0":             {held(0, 0, -1, 0, 0), api.ErrAbsent},
		"town before child":          {api.Record{Town: 2, Child: 1}, api.ErrAbsent},
		"a child without kin":        {api.Record{Child: 1}, api.ErrShape},
		"a child below 0":            {api.Record{Child: -1}, api.ErrShape},
		"no such child without kin":  {api.Record{Child: 9}, api.ErrShape},
		"child before years":         {api.Record{Child: 1, When: to(0, 3001)}, api.ErrShape},
		"child before sequence":      {api.Record{Child: 1, When: to(2, 1)}, api.ErrShape},
		"a year below":               {held(0, 0, 0, -3001, 0), api.ErrBounds},
		"a year above":               {held(0, 0, 0, 0, 3001), api.ErrBounds},
		"bounds before sequence":     {held(0, 0, 0, 3001, 0), api.ErrBounds},
		"years that end first":       {held(0, 0, 0, 1, 0), api.ErrSequence},
		"kin":                        {kin(0, 1), api.OK},
		"kin, the other way":         {kin(1, 0), api.OK},
		"kin of no man":              {kin(2, 1), api.ErrAbsent},
		"kin of a man below 0":       {kin(-1, 1), api.ErrAbsent},
		"kin of none and himself":    {kin(2, 2), api.ErrAbsent},
		"no such child":              {kin(0, 2), api.ErrAbsent},
		"a child that is below 0":    {kin(0, -1), api.ErrAbsent},
		"no such child before shape": {api.Record{Kin: true, Child: 2, Town: 1}, api.ErrAbsent},
		"himself":                    {kin(1, 1), api.ErrTwice},
		"himself, the first one":     {kin(0, 0), api.ErrTwice},
		"himself before shape":       {api.Record{Kin: true, Office: 1}, api.ErrTwice},
		"kin with an office":         {api.Record{Kin: true, Child: 1, Office: 1}, api.ErrShape},
		"kin without an office":      {api.Record{Kin: true, Child: 1, Office: -1}, api.ErrShape},
		"kin with no such office":    {api.Record{Kin: true, Child: 1, Office: 9}, api.ErrShape},
		"kin in a town":              {api.Record{Kin: true, Child: 1, Town: 1}, api.ErrShape},
		"kin from a year on":         {api.Record{Kin: true, Child: 1, When: to(-1, 0)}, api.ErrShape},
		"kin until a year":           {api.Record{Kin: true, Child: 1, When: to(0, 1)}, api.ErrShape},
		"kin of years beyond":        {api.Record{Kin: true, Child: 1, When: to(3001, 0)}, api.ErrShape},
		"a record of nothing":        {api.Record{When: when}, api.OK},
	} {
		checkErrors(t, name, recorded(c.rec), c.want)
		checkErrors(t, name+", behind others", recorded(held(1, 0, 1, 3, 5), kin(0, 1), c.rec), c.want)
		if c.want != api.OK {
			checkErrors(t, name+", ahead of another error", recorded(c.rec, held(0, 0, 0, 1, 0)), c.want)
			checkErrors(t, name+", ahead of a third one", recorded(held(1, 0, 1, 3, 5), c.rec, kin(0, 0)), c.want)
		}
	}
}

// man returns a roll of one man who was born and died in such years, and has two offices and four towns that are far from each other.
func man(born, died api.Span, records ...api.Record) api.Roll {
	return with(func(r *api.Roll) {
		r.Far, r.Men, r.Records = apartAll(4), []api.Man{{Born: born, Died: died}}, records
	})
}

// testTold tests what is said of a roll.
func testTold(t *testing.T, name string, r api.Roll, born, died, when []api.Span) {
	t.Helper()
	all, e := tell(r)
	if want := (lives{born, died, when}); e != api.OK || !all.same(want) {
		t.Error(name, all, want, e)
	}
}

// spans returns a list of spans, given by both of their numbers.
func spans(ends ...int) []api.Span {
	var list []api.Span
	for two := range slices.Chunk(ends, 2) {
		list = append(list, to(two[0], two[1]))
	}
	return list
}

func TestLivesP6_1(t *testing.T) {
	testTold(t, "R", example(), spans(-100, -70, -70, -40), spans(-47, 0, -20, 20), spans(-50, -45, -47, -40, -20, -15, 0, 0))
	testTold(t, "no records", recorded(), spans(-100, -60, -70, -30), spans(-60, 0, -40, 20), nil)
	testTold(t, "lives of 40 years", with(func(r *api.Roll) { r.Life = 40 }), spans(-87, -70, -60, -40), spans(-47, -30, -20, 0), spans(-50, -45, -47, -40, -20, -15, 0, 0))
	testTold(t, "a death in the year of birth", with(func(r *api.Roll) { r.Life = 0; *r = man2(*r, to(-5, 9), to(3, 12)) }), spans(3, 9), spans(3, 9), nil)
	testTold(t, "a death before birth cannot be", man(to(0, 20), to(-5, 9)), spans(0, 9), spans(0, 9), nil)
	testTold(t, "the longest lives", with(func(r *api.Roll) { r.Life = 100; *r = man2(*r, to(-3000, 3000), to(-50, -50)) }), spans(-150, -50), spans(-50, -50), nil)
	testTold(t, "at both ends", man(to(-3000, 3000), to(-3000, 3000)), spans(-3000, 3000), spans(-3000, 3000), nil)
	testTold(t, "the last years", man(to(2900, 3000), to(2900, 3000), held(0, 0, 0, -3000, 3000)), spans(2900, 2975), spans(2925, 3000), spans(2925, 3000))
	testTold(t, "the first years", man(to(-3000, 3000), to(-3000, -2990), held(0, -1, 0, -3000, 3000)), spans(-3000, -2990), spans(-3000, -2990), spans(-3000, -2990))
	testTold(t, "seen when born and when dead", man(to(5, 9), to(7, 9), held(0, -1, 0, 3, 20)), spans(5, 9), spans(7, 9), spans(5, 9))
	testTold(t, "seen in one year", man(to(0, 99), to(0, 99), held(0, -1, 0, 50, 50)), spans(0, 50), spans(50, 99), spans(50, 50))
	testTold(t, "an office from an age on", man(to(0, 50), to(0, 80), held(0, 0, 0, 30, 40)), spans(0, 15), spans(30, 80), spans(30, 40))
	testTold(t, "an office of an age that none has", with(func(r *api.Roll) {
		r.Offices[0].Age, r.Life = 100, 100
		*r = man2(*r, to(0, 50), to(0, 120), held(0, 0, 0, 0, 3000))
	}), spans(0, 20), spans(100, 120), spans(100, 120))
}

// man2 returns a roll with other years of one man alone.
func man2(r api.Roll, born, died api.Span, records ...api.Record) api.Roll {
	r.Men, r.Records = []api.Man{{Born: born, Died: died}}, records
	return r
}

func TestYearsP6_1(t *testing.T) {
	for name, c := range map[string]struct {
		records []api.Record
		want    []api.Span
	}{
		"from the age on":                  {[]api.Record{held(0, 0, 0, 20, 30)}, spans(25, 30)},
		"just of age":                      {[]api.Record{held(0, 0, 0, 20, 25)}, spans(25, 25)},
		"seen from birth to death":         {[]api.Record{held(0, -1, 0, -5, 99)}, spans(0, 80)},
		"the same year again":              {[]api.Record{held(0, 0, 0, 26, 34), held(0, 0, 0, 30, 30)}, spans(30, 30, 30, 30)},
		"five years later, or the same":    {[]api.Record{held(0, 0, 0, 26, 35), held(0, 0, 0, 30, 30)}, spans(30, 35, 30, 30)},
		"five years earlier, or the same":  {[]api.Record{held(0, 0, 0, 25, 34), held(0, 0, 0, 30, 30)}, spans(25, 30, 30, 30)},
		"again in a town that is far":      {[]api.Record{held(0, 0, 0, 26, 35), held(0, 0, 1, 30, 30)}, spans(35, 35, 30, 30)},
		"far, with room on both sides":     {[]api.Record{held(0, 0, 0, 25, 35), held(0, 0, 1, 30, 30)}, spans(25, 35, 30, 30)},
		"each year again":                  {[]api.Record{held(0, 0, 0, 30, 31), held(0, 0, 0, 30, 31)}, spans(30, 31, 30, 31)},
		"three times":                      {[]api.Record{held(0, 0, 0, 30, 40), held(0, 0, 1, 30, 40), held(0, 0, 2, 30, 40)}, spans(30, 40, 30, 40, 30, 40)},
		"three times, the second one":      {[]api.Record{held(0, 0, 0, 30, 33), held(0, 0, 1, 30, 40), held(0, 0, 2, 37, 40)}, spans(30, 30, 35, 35, 40, 40)},
		"a higher office later":            {[]api.Record{held(0, 0, 0, 25, 40), held(0, 1, 0, 30, 33)}, spans(25, 30, 30, 33)},
		"a higher office, put down first":  {[]api.Record{held(0, 1, 0, 40, 50), held(0, 0, 0, 45, 60)}, spans(48, 50, 45, 47)},
		"just so many years later":         {[]api.Record{held(0, 1, 0, 40, 48), held(0, 0, 0, 45, 60)}, spans(48, 48, 45, 45)},
		"a higher office, put down again":  {[]api.Record{held(0, 0, 0, 25, 50), held(0, 1, 0, 30, 42), held(0, 1, 0, 50, 50)}, spans(25, 37, 30, 40, 50, 50)},
		"seen elsewhere":                   {[]api.Record{held(0, -1, 0, 40, 41), held(0, -1, 1, 41, 41)}, spans(40, 40, 41, 41)},
		"seen elsewhere, before and after": {[]api.Record{held(0, -1, 0, 40, 42), held(0, -1, 1, 41, 41)}, spans(40, 42, 41, 41)},
		"seen here and there in order":     {[]api.Record{held(0, -1, 0, 1, 2), held(0, -1, 1, 1, 2), held(0, -1, 2, 1, 3)}, spans(1, 2, 1, 2, 3, 3)},
		"four towns, four years":           {[]api.Record{held(0, -1, 0, 1, 4), held(0, -1, 1, 1, 4), held(0, -1, 2, 1, 4), held(0, -1, 3, 2, 2)}, spans(1, 4, 1, 4, 1, 4, 2, 2)},
		"seen in the year of an office":    {[]api.Record{held(0, -1, 0, 41, 41), held(0, 0, 0, 41, 41)}, spans(41, 41, 41, 41)},
		"seen elsewhere than in an office": {[]api.Record{held(0, -1, 0, 40, 42), held(0, 0, 1, 42, 42)}, spans(40, 41, 42, 42)},
		"seen is no lower office":          {[]api.Record{held(0, -1, 0, 60, 60), held(0, 1, 0, 30, 61)}, spans(60, 60, 30, 61)},
		"seen is no office again":          {[]api.Record{held(0, -1, 0, 60, 60), held(0, -1, 0, 61, 61)}, spans(60, 60, 61, 61)},
	} {
		r := man(to(0, 0), to(80, 80), c.records...)
		testTold(t, name, r, spans(0, 0), spans(80, 80), c.want)
	}
}

// TestGapsP6_1 has the least and the greatest gaps and years until an office is held again.
func TestGapsP6_1(t *testing.T) {
	r := man(to(0, 0), to(100, 100), held(0, 0, 0, 0, 50), held(0, 1, 1, 0, 50))
	r.Life, r.Offices = 100, []api.Office{{Again: 1}, {Again: 1}}
	testTold(t, "a gap of 0, far", r, spans(0, 0), spans(100, 100), spans(0, 49, 1, 50))
	r.Records[1].Town = 0
	testTold(t, "a gap of 0", r, spans(0, 0), spans(100, 100), spans(0, 50, 0, 50))
	r.Records[1].Office = 0
	testTold(t, "again after a year", r, spans(0, 0), spans(100, 100), spans(0, 50, 0, 50))
	r.Records[0].When, r.Records[1].When = to(7, 7), to(7, 8)
	testTold(t, "again in the next year", r, spans(0, 0), spans(100, 100), spans(7, 7, 7, 8))
	r.Records[1].Town = 1
	testTold(t, "again in the next year, far", r, spans(0, 0), spans(100, 100), spans(7, 7, 8, 8))
	r.Offices[1].Gap, r.Records = 100, []api.Record{held(0, 1, 1, 0, 100), held(0, 0, 1, 0, 100)}
	testTold(t, "a gap of 100", r, spans(0, 0), spans(100, 100), spans(100, 100, 0, 0))
	r.Offices[0].Again, r.Records = 100, []api.Record{held(0, 0, 1, 0, 100), held(0, 0, 1, 1, 100)}
	testTold(t, "again after 100 years", r, spans(0, 0), spans(100, 100), spans(0, 100, 1, 100))
	r.Records[0].Town = 2
	testTold(t, "again after 100 years, far", r, spans(0, 0), spans(100, 100), spans(0, 0, 100, 100))
}

// family returns a roll of men with the years of birth and death of each, and records.
func family(ends []int, records ...api.Record) api.Roll {
	return with(func(r *api.Roll) {
		r.Men, r.Records = nil, records
		for four := range slices.Chunk(ends, 4) {
			r.Men = append(r.Men, api.Man{Name: 4, Born: to(four[0], four[1]), Died: to(four[2], four[3])})
		}
	})
}

func TestKinP6_1(t *testing.T) {
	testTold(t, "a child", family([]int{0, 0, 80, 80, 0, 99, 0, 99}, kin(0, 1)), spans(0, 0, 15, 60), spans(80, 80, 15, 99), spans(0, 0))
	testTold(t, "a parent", family([]int{0, 99, 0, 99, 80, 80, 85, 85}, kin(0, 1)), spans(20, 65, 80, 80), spans(79, 99, 85, 85), spans(0, 0))
	testTold(t, "a child in the year after death", family([]int{0, 0, 30, 30, 31, 40, 50, 50}, kin(0, 1)), spans(0, 0, 31, 31), spans(30, 30, 50, 50), spans(0, 0))
	testTold(t, "a death not much before", family([]int{0, 0, 20, 40, 31, 40, 50, 50}, kin(0, 1)), spans(0, 0, 31, 40), spans(30, 40, 50, 50), spans(0, 0))
	testTold(t, "both parents", family([]int{0, 0, 80, 80, 30, 30, 60, 60, 0, 99, 99, 99}, kin(0, 2), kin(1, 2)), spans(0, 0, 30, 30, 45, 60), spans(80, 80, 60, 60, 99, 99), spans(0, 0, 0, 0))
	testTold(t, "grandchildren", family([]int{0, 0, 80, 80, 0, 99, 90, 99, 0, 99, 0, 99}, kin(0, 1), kin(1, 2)), spans(0, 0, 15, 60, 30, 99), spans(80, 80, 90, 99, 30, 99), spans(0, 0, 0, 0))
	testTold(t, "two children", family([]int{-9, 20, 80, 80, 18, 18, 90, 90, 58, 58, 90, 90}, kin(0, 1), kin(0, 2)), spans(-2, 3, 18, 18, 58, 58), spans(80, 80, 90, 90, 90, 90), spans(0, 0, 0, 0))
	testTold(t, "the same child twice", family([]int{0, 20, 80, 80, 30, 30, 90, 90}, kin(0, 1), kin(0, 1)), spans(0, 15, 30, 30), spans(80, 80, 90, 90), spans(0, 0, 0, 0))
	testTold(t, "an office of a parent", family([]int{0, 40, 20, 90, 0, 50, 60, 90}, held(0, 1, 0, 40, 44), kin(0, 1)), spans(0, 14, 15, 50), spans(40, 90, 60, 90), spans(40, 44, 0, 0))
	generations := []api.Record{kin(0, 1), kin(1, 2), kin(2, 3), kin(3, 4), kin(4, 5)}
	var ends []int
	for range 6 {
		ends = append(ends, -3000, 3000, -3000, 3000)
	}
	testTold(t, "six generations", family(ends, generations...), spans(-3000, 2925, -2985, 2940, -2970, 2955, -2955, 2970, -2940, 2985, -2925, 3000), spans(-2986, 3000, -2971, 3000, -2956, 3000, -2941, 3000, -2926, 3000, -2925, 3000), spans(0, 0, 0, 0, 0, 0, 0, 0, 0, 0))
	ends[0], ends[1] = 0, 0
	testTold(t, "six generations from a year on", family(ends, generations...), spans(0, 0, 15, 60, 30, 120, 45, 180, 60, 240, 75, 300), spans(14, 90, 29, 150, 44, 210, 59, 270, 74, 330, 75, 390), spans(0, 0, 0, 0, 0, 0, 0, 0, 0, 0))
}

// TestChainP6_1 has records in an order in which each one says something only after the next one has.
func TestChainP6_1(t *testing.T) {
	ends := []int{0, 0, -3000, 3000}
	for range 5 {
		ends = append(ends, -3000, 3000, -3000, 3000)
	}
	any := func(office int) api.Record { return held(5, office, 0, -3000, 3000) }
	r := family(ends, any(2), any(1), any(0), kin(4, 5), kin(3, 4), kin(2, 3), kin(1, 2), kin(0, 1))
	r.Offices = append(r.Offices, api.Office{Age: 31, Gap: 4, Again: 1})
	testTold(t, "up to the last one", r, spans(0, 0, 15, 60, 30, 120, 45, 180, 60, 240, 75, 300), spans(14, 90, 29, 150, 44, 210, 59, 270, 74, 330, 109, 390), spans(109, 390, 105, 386, 100, 383, 0, 0, 0, 0, 0, 0, 0, 0, 0, 0))
	var list []api.Record
	for town := range 8 {
		list = append(list, held(0, -1, town%4, 7-town, 99))
	}
	testTold(t, "one town after the other", man(to(0, 0), to(7, 7), list...), spans(0, 0), spans(7, 7), spans(7, 7, 6, 6, 5, 5, 4, 4, 3, 7, 2, 6, 1, 5, 0, 4))
}

// clashes are rolls that may not be.
func clashes() map[string]api.Roll {
	lifelong := func(records ...api.Record) api.Roll { return man(to(0, 0), to(80, 80), records...) }
	old := []int{0, 20, 40, 80, 0, 20, 40, 80, 0, 20, 40, 80}
	return map[string]api.Roll{
		"R with -60..-55":            with(func(r *api.Roll) { r.Records[2].When = to(-60, -55) }),
		"parents too old":            ages(90, 61, 99),
		"dead before born":           man(to(5, 9), to(0, 4)),
		"dead too late":              man(to(0, 5), to(96, 99)),
		"too young":                  lifelong(held(0, 0, 0, 20, 24)),
		"before birth":               lifelong(held(0, -1, 0, -9, -1)),
		"after death":                lifelong(held(0, -1, 0, 81, 90)),
		"again too early":            lifelong(held(0, 0, 0, 31, 34), held(0, 0, 0, 30, 30)),
		"again in no year":           lifelong(held(0, 0, 0, 26, 34), held(0, 0, 1, 30, 30)),
		"far, in one year":           lifelong(held(0, -1, 0, 41, 41), held(0, -1, 1, 41, 41)),
		"far from an office":         lifelong(held(0, -1, 0, 41, 41), held(0, 0, 1, 41, 41)),
		"far from a higher office":   lifelong(held(0, 0, 0, 41, 41), held(0, 1, 1, 41, 41)),
		"three towns in two years":   lifelong(held(0, -1, 0, 1, 2), held(0, -1, 1, 1, 2), held(0, -1, 2, 1, 2)),
		"a higher office too early":  lifelong(held(0, 1, 0, 40, 42), held(0, 0, 0, 40, 42)),
		"three times in nine years":  lifelong(held(0, 0, 0, 30, 39), held(0, 0, 1, 30, 39), held(0, 0, 2, 30, 39)),
		"an orphan, two years later": family([]int{0, 0, 30, 30, 32, 32, 50, 50}, kin(0, 1)),
		"a child too early":          family([]int{0, 0, 80, 80, 14, 14, 50, 50}, kin(0, 1)),
		"a child too late":           family([]int{0, 0, 80, 80, 61, 61, 70, 70}, kin(0, 1)),
		"each a child of the other":  family([]int{-3000, 3000, -3000, 3000, -3000, 3000, -3000, 3000}, kin(0, 1), kin(1, 0)),
		"a child of himself":         family(old, kin(0, 1), kin(1, 2), kin(2, 0)),
		"his own great-grandchild":   family([]int{-3000, 3000, -3000, 3000, -3000, 3000, -3000, 3000, -3000, 3000, -3000, 3000, -3000, 3000, -3000, 3000}, kin(0, 1), kin(1, 2), kin(2, 3), kin(3, 0)),
		"brothers too far apart":     family([]int{0, 20, 80, 80, 18, 18, 90, 90, 79, 79, 90, 90}, kin(0, 1), kin(0, 2)),
	}
}

func TestClashP6_1(t *testing.T) {
	for name, r := range clashes() {
		born, died, e := Lives(r)
		when, f := Years(r)
		if born != nil || died != nil || when != nil || e != api.ErrClash || f != api.ErrClash {
			t.Error(name, born, died, when, e, f)
		}
	}
}

// seen is the roll S of the chapter.
func seen() api.Roll {
	return with(func(r *api.Roll) { r.Records = r.Records[:3]; r.Records[2].Office = -1 })
}

func seenWith(change func(r *api.Roll)) api.Roll {
	r := seen()
	change(&r)
	return r
}

func TestSameP6_2(t *testing.T) {
	wide := []int{-100, 0, -50, 50, -100, 0, -50, 50, -100, 0, -50, 50}
	for name, c := range map[string]struct {
		r    api.Roll
		a, b int
		want bool
		e    api.Errno
	}{
		"R":                        {example(), 0, 1, false, api.OK},
		"S":                        {seen(), 0, 1, true, api.OK},
		"S, the other way":         {seen(), 1, 0, true, api.OK},
		"another name":             {seenWith(func(r *api.Roll) { r.Men[1].Name = 5 }), 0, 1, false, api.OK},
		"R without kin":            {with(func(r *api.Roll) { r.Records = r.Records[:3] }), 0, 1, false, api.OK},
		"no records":               {recorded(), 0, 1, true, api.OK},
		"no year of birth":         {seenWith(func(r *api.Roll) { r.Men[1].Born.Low = -59 }), 0, 1, false, api.OK},
		"no year of birth, by age": {seenWith(func(r *api.Roll) { r.Men[1].Born.Low = -69 }), 0, 1, false, api.OK},
		"one year of birth":        {seenWith(func(r *api.Roll) { r.Men[0].Born = to(-80, -70) }), 0, 1, true, api.OK},
		"no year of death":         {seenWith(func(r *api.Roll) { r.Men[0].Died.High = -41 }), 0, 1, false, api.OK},
		"a death too early":        {seenWith(func(r *api.Roll) { r.Men[0].Died.High = -21 }), 0, 1, false, api.OK},
		"a death just late enough": {seenWith(func(r *api.Roll) { r.Men[0].Died.High = -20 }), 0, 1, true, api.OK},
		"far in one year":          {seenWith(func(r *api.Roll) { r.Records[2].When = to(-45, -45) }), 0, 1, false, api.OK},
		"far in the next year":     {seenWith(func(r *api.Roll) { r.Records[2].When = to(-44, -44) }), 0, 1, true, api.OK},
		"a child":                  {family(wide, kin(0, 1)), 0, 1, false, api.OK},
		"a child, the other way":   {family(wide, kin(0, 1)), 1, 0, false, api.OK},
		"a parent and a child":     {family(wide, kin(2, 0)), 0, 2, false, api.OK},
		"a grandchild":             {family(wide, kin(0, 1), kin(1, 2)), 0, 2, false, api.OK},
		"a grandchild, first":      {family(wide, kin(0, 1), kin(1, 2)), 2, 0, false, api.OK},
		"brothers":                 {family(wide, kin(0, 1), kin(0, 2)), 1, 2, true, api.OK},
		"brothers, the other way":  {family(wide, kin(2, 0), kin(2, 1)), 1, 0, true, api.OK},
		"parents":                  {family(wide, kin(0, 2), kin(1, 2)), 0, 1, true, api.OK},
		"others' child":            {family(wide, kin(0, 2)), 0, 1, true, api.OK},
		"kin of the second one":    {family(wide, kin(1, 2), held(1, -1, 0, 49, 50), held(0, -1, 0, -50, -40)), 0, 1, true, api.OK},
		"kin just in time":         {family(wide, kin(1, 2), held(0, -1, 0, 15, 20), held(2, 0, 0, -35, -35)), 0, 1, true, api.OK},
		"kin too late":             {family(wide, kin(1, 2), held(0, -1, 0, 15, 20), held(2, 0, 0, -36, -36)), 0, 1, false, api.OK},
		"no such second man":       {example(), 0, 2, false, api.ErrAbsent},
		"no such first man":        {example(), 2, 0, false, api.ErrAbsent},
		"a man below 0":            {example(), -1, 1, false, api.ErrAbsent},
		"the second below 0":       {example(), 1, -1, false, api.ErrAbsent},
		"two that are none":        {example(), 2, 2, false, api.ErrAbsent},
		"the greatest":             {example(), math.MinInt, math.MaxInt, false, api.ErrAbsent},
		"the same":                 {example(), 0, 0, false, api.ErrTwice},
		"the same second one":      {example(), 1, 1, false, api.ErrTwice},
		"absent before a clash":    {clashes()["parents too old"], 0, 2, false, api.ErrAbsent},
		"twice before a clash":     {clashes()["parents too old"], 1, 1, false, api.ErrTwice},
		"a clash":                  {clashes()["parents too old"], 0, 1, false, api.ErrClash},
		"a clash of other names": {with(func(r *api.Roll) {
			*r = clashes()["parents too old"]
			r.Men[1].Name = 5
		}), 0, 1, false, api.ErrClash},
	} {
		if is, e := Same(c.r, c.a, c.b); is != c.want || e != c.e {
			t.Error(name, is, e)
		}
	}
}

// TestExcludedP6_2 has two men whose offices one man cannot have held.
func TestExcludedP6_2(t *testing.T) {
	for name, c := range map[string]struct {
		first, second api.Record
		want          bool
	}{
		"the same year":                {held(0, 0, 0, 40, 40), held(1, 0, 0, 40, 40), true},
		"the same year, far":           {held(0, 0, 0, 40, 40), held(1, 0, 1, 40, 40), false},
		"seen in the same year, far":   {held(0, -1, 0, 40, 40), held(1, -1, 1, 40, 40), false},
		"seen in the same year":        {held(0, -1, 0, 40, 40), held(1, -1, 0, 40, 40), true},
		"again, four years later":      {held(0, 0, 0, 40, 40), held(1, 0, 0, 44, 44), false},
		"again, five years later":      {held(0, 0, 0, 40, 40), held(1, 0, 0, 45, 45), true},
		"a higher one, two years":      {held(0, 0, 0, 40, 40), held(1, 1, 0, 42, 42), false},
		"a higher one, three years":    {held(0, 0, 0, 40, 40), held(1, 1, 0, 43, 43), true},
		"a lower one, too late":        {held(0, 1, 0, 40, 40), held(1, 0, 0, 38, 38), false},
		"a lower one, in time":         {held(0, 1, 0, 40, 40), held(1, 0, 0, 37, 37), true},
		"ninety years of life":         {held(0, -1, 0, 5, 5), held(1, -1, 0, 95, 95), true},
		"more years than one lives":    {held(0, -1, 0, 4, 4), held(1, -1, 0, 95, 95), false},
		"an office too early, by then": {held(0, 0, 0, 25, 25), held(1, -1, 0, 91, 91), false},
	} {
		r := family([]int{0, 50, 0, 120, 0, 50, 0, 120, 0, 0, 0, 0}, c.first, c.second)
		is, e := Same(r, 0, 1)
		back, f := Same(r, 1, 0)
		if is != c.want || back != c.want || e != api.OK || f != api.OK {
			t.Error(name, is, back, e, f)
		}
	}
}

func TestWrongP6_3(t *testing.T) {
	lifelong := func(records ...api.Record) api.Roll { return man(to(0, 0), to(80, 80), records...) }
	for name, c := range map[string]struct {
		r    api.Roll
		want []int
		e    api.Errno
	}{
		"R":                      {example(), nil, api.OK},
		"R with -60..-55":        {clashes()["R with -60..-55"], []int{2}, api.OK},
		"no records":             {recorded(), nil, api.OK},
		"parents too old":        {ages(90, 61, 99), []int{2}, api.OK},
		"two of several":         {with(func(r *api.Roll) { r.Parents, r.Records[0].When = to(71, 99), to(-80, -80) }), []int{0, 3}, api.OK},
		"one of two":             {lifelong(held(0, -1, 0, 41, 41), held(0, -1, 1, 41, 41)), []int{0}, api.OK},
		"the first, not two":     {lifelong(held(0, -1, 0, 41, 41), held(0, -1, 1, 41, 41), held(0, -1, 1, 41, 41)), []int{0}, api.OK},
		"the second, not two":    {lifelong(held(0, -1, 1, 41, 41), held(0, -1, 0, 41, 41), held(0, -1, 1, 41, 41)), []int{1}, api.OK},
		"the last, not two":      {lifelong(held(0, -1, 1, 41, 41), held(0, -1, 1, 41, 41), held(0, -1, 0, 41, 41)), []int{2}, api.OK},
		"two of three":           {lifelong(held(0, -1, 0, 41, 41), held(0, -1, 1, 41, 41), held(0, -1, 2, 41, 41)), []int{0, 1}, api.OK},
		"two of four":            {lifelong(held(0, -1, 0, 41, 41), held(0, -1, 1, 41, 41), held(0, -1, 1, 41, 41), held(0, -1, 0, 41, 41)), []int{0, 3}, api.OK},
		"two clashes":            {lifelong(held(0, -1, 0, 41, 41), held(0, -1, 0, 51, 51), held(0, -1, 1, 41, 41), held(0, -1, 1, 51, 51)), []int{0, 1}, api.OK},
		"both alone":             {lifelong(held(0, 0, 0, 81, 90), held(0, 1, 0, 20, 25)), []int{0, 1}, api.OK},
		"all of eight":           {lifelong(slices.Repeat([]api.Record{held(0, -1, 0, 81, 90)}, 8)...), []int{0, 1, 2, 3, 4, 5, 6, 7}, api.OK},
		"seven of eight":         {lifelong(append(slices.Repeat([]api.Record{held(0, -1, 0, 81, 90)}, 7), held(0, -1, 0, 80, 80))...), []int{0, 1, 2, 3, 4, 5, 6}, api.OK},
		"a circle of kin":        {clashes()["his own great-grandchild"], []int{0}, api.OK},
		"a circle of few years":  {clashes()["a child of himself"], []int{0, 1}, api.OK},
		"one child of two":       {clashes()["brothers too far apart"], []int{0}, api.OK},
		"kin, not an office":     {family([]int{0, 40, 60, 80, 50, 50, 99, 99}, held(0, 0, 0, 30, 60), held(0, 1, 0, 63, 64), kin(1, 0)), []int{2}, api.OK},
		"no year without any":    {with(func(r *api.Roll) { r.Men[0].Died = to(-200, -150) }), nil, api.ErrClash},
		"dead before born":       {clashes()["dead before born"], nil, api.ErrClash},
		"dead too late":          {clashes()["dead too late"], nil, api.ErrClash},
		"dead, and with records": {man(to(5, 9), to(0, 4), held(0, 0, 0, 3, 5), held(0, 0, 1, 3, 5)), nil, api.ErrClash},
	} {
		if list, e := Wrong(c.r); e != c.e || !slices.Equal(list, c.want) {
			t.Error(name, list, e)
		}
	}
}

// TestManyWaysP6_3 has rolls for which there are as many ways out as there can be, almost all of which lead nowhere.
func TestManyWaysP6_3(t *testing.T) {
	r := with(func(r *api.Roll) {
		r.Offices, r.Life, r.Far = []api.Office{{Again: 19}, {Gap: 3, Again: 1}}, 47, apartAll(4)
		*r = man2(*r, to(0, 45), to(0, 200), held(0, -1, 0, 0, 105), held(0, 0, 0, 1, 129), held(0, -1, 3, 0, 103), held(0, -1, 1, 0, 67), held(0, -1, 2, 0, 127), held(0, 0, 1, 1, 93), held(0, 0, 2, 0, 141), held(0, 0, 3, 0, 82))
	})
	if list, e := Wrong(r); e != api.OK || !slices.Equal(list, []int{1}) {
		t.Error(list, e)
	}
	r.Life = 57
	if list, e := Wrong(r); e != api.OK || list != nil {
		t.Error(list, e)
	}
	testTold(t, "just so many years", r, spans(0, 45), spans(57, 102), spans(1, 102, 1, 102, 0, 101, 1, 67, 0, 102, 1, 93, 0, 102, 0, 82))
}

// wild are numbers far outside all limits, and some within.
func wild(i int) int {
	list := []int{0, 1, 2, 3, 4, 5, -1, 50, 100, 101, 2999, 3000, 3001, -2999, -3000, -3001, math.MinInt, math.MinInt + 5, math.MaxInt, math.MaxInt - 5}
	return list[(i%len(list)+len(list))%len(list)]
}

// tame is a wild number now and then, and otherwise one within the limits.
func tame(i, low, high int) int {
	if i%53 == 0 {
		return wild(i / 53)
	}
	return low + (i%(high-low+1)+high-low+1)%(high-low+1)
}

// anyRoll returns a roll most of which is within the limits.
func anyRoll(i int) api.Roll {
	r := api.Roll{Life: tame(i, 0, 100), Parents: to(tame(i/2, 1, 50), tame(i/3, 50, 100)), Far: apartAll(1 + i%5)}
	for k := range i % 7 {
		r.Offices = append(r.Offices, api.Office{Age: tame(i+k, 0, 40), Gap: tame(i*3+k, 0, 9), Again: tame(i*5+k, 1, 9)})
	}
	for k := range i / 3 % 8 {
		low, high := tame(i*7+k, -3000, 2900), tame(i*11+k, -90, 90)
		r.Men = append(r.Men, api.Man{Name: tame(i*13+k, 0, 9), Born: to(low, low+high), Died: to(low+high, low+2*high)})
	}
	for k := range i / 11 % 10 {
		low := tame(i*17+k, -3000, 2990)
		rec := held(tame(i*19+k, 0, len(r.Men)), tame(i*23+k, -1, len(r.Offices)), tame(i*29+k, 0, len(r.Far)), low, low+tame(i*31+k, 0, 90))
		if i*k%3 == 2 {
			rec = kin(tame(i*37+k, 0, len(r.Men)), tame(i*41+k, 0, len(r.Men)))
		}
		r.Records = append(r.Records, rec)
	}
	if i%31 == 0 {
		r.Far[0] = r.Far[0][:i%2]
	}
	return r
}

func TestAnyArgumentsP1(t *testing.T) {
	valid := 0
	for i := range 30000 {
		r := anyRoll(i)
		errors, left := errorsOf(r, wild(i/3), wild(i/19))
		if errors[0] == api.OK {
			valid++
		} else if left || slices.Min(errors) != errors[0] || slices.Max(errors) != errors[0] {
			t.Fatal(i, r, errors)
		}
	}
	if valid < 500 {
		t.Error("too few are valid:", valid)
	}
}

func TestAnyRegestsP1(t *testing.T) {
	bytes := []byte("office1,-2\ntnmhkFNe \xff\x00")
	text, _ := Write(example())
	for i := range 30000 {
		regest := []byte(text)
		regest[i*7%len(regest)] = bytes[i%len(bytes)]
		regest[i/7%len(regest)] = bytes[i/5%len(bytes)]
		r, line, e := Read(string(regest[i%3:]))
		if e != api.OK && !reflect.DeepEqual(r, api.Roll{}) || line != 0 && e != api.ErrShape || e == api.OK && Check(r) != api.OK {
			t.Fatal(i, string(regest), r, line, e)
		}
	}
}

func TestArgumentsStayR4(t *testing.T) {
	for i, s := range smalls()[:500] {
		r := cloned(s.r)
		errorsOf(s.r, 0, len(s.r.Men)-1)
		errorsOf(s.r, len(s.r.Men)-1, 0)
		if !reflect.DeepEqual(r, s.r) {
			t.Fatal(i, r, s.r)
		}
	}
}

// TestResultsApartR4 changes results, which must change neither an argument nor another result.
func TestResultsApartR4(t *testing.T) {
	r := with(func(r *api.Roll) { r.Records[2].When = to(-60, -55) })
	born, died, _ := Lives(example())
	when, _ := Years(example())
	wrong, _ := Wrong(r)
	clear(born)
	clear(died)
	clear(when)
	clear(wrong)
	testTold(t, "R, again", example(), spans(-100, -70, -70, -40), spans(-47, 0, -20, 20), spans(-50, -45, -47, -40, -20, -15, 0, 0))
	born, died, _ = Lives(with(func(r *api.Roll) { r.Men, r.Records = make([]api.Man, api.MaxMen), nil }))
	if _ = append(born, to(7, 7)); died[0] != to(0, 0) {
		t.Error(died)
	}
	text, _ := Write(example())
	read, _, _ := Read(text)
	for _, far := range read.Far {
		_ = append(far, true)
	}
	if !reflect.DeepEqual(read, example()) {
		t.Error(read)
	}
	clear(read.Far[0])
	if again, _, _ := Read(text); !reflect.DeepEqual(again, example()) {
		t.Error(again)
	}
}

func TestNilAsEmptyR4(t *testing.T) {
	a := with(func(r *api.Roll) { r.Offices, r.Records = nil, nil })
	b := with(func(r *api.Roll) { r.Offices, r.Records = []api.Office{}, []api.Record{} })
	for _, r := range []api.Roll{a, b} {
		if errors, _ := errorsOf(r, 0, 1); slices.Max(errors) != api.OK {
			t.Error(r, errors)
		}
	}
	s, _ := Write(a)
	if text, e := Write(b); text != s || e != api.OK {
		t.Error(s, text, e)
	}
}
