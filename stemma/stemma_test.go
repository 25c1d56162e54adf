package stemma

import (
	"math"
	"slices"
	"strings"
	"testing"

	"cippus/api"
)

const (
	y = api.Yes
	n = api.No
	o = api.Open
)

// errorsOf returns the errors of all functions for a tradition, and whether a result is left with one.
func errorsOf(l []api.Copy, a, b int) (errors []api.Errno, left bool) {
	e := Check(l)
	sources, f := Sources(l)
	depends, g := Depends(l, a, b)
	letters, h := Letters(l)
	text, i := Print(l)
	fewest, j := Fewest(l)
	list, k := Write(l)
	left = f != api.OK && sources != nil || g != api.OK && depends != 0 || h != api.OK && letters != nil || i != api.OK && text != "" || j != api.OK && fewest != 0 || k != api.OK && list != ""
	return []api.Errno{e, k, f, h, i, j, g}, left
}

func TestCheckP7_1(t *testing.T) {
	right := saw("ARMA", 1)
	for name, c := range map[string]struct {
		l    []api.Copy
		want api.Errno
	}{
		"L":                                {traditionL(), api.OK},
		"nothing":                          {nil, api.ErrFew},
		"one copy":                         {of(saw("A", 0)), api.OK},
		"five copies":                      {of(right, right, right, right, right), api.OK},
		"six copies":                       {of(right, right, right, right, right, right), api.ErrMany},
		"six copies, all wrong":            {make([]api.Copy, 6), api.ErrMany},
		"no places":                        {of(saw("", 0)), api.ErrShape},
		"eight places":                     {of(saw("ABCDEFGH", 3), had("STUVWXYZ", 0)), api.OK},
		"nine places":                      {of(saw("ABCDEFGHI", 3)), api.ErrShape},
		"no places, and then some":         {of(saw("", 0), saw("A", 0)), api.ErrShape},
		"one place less":                   {of(right, saw("ARM", 0)), api.ErrShape},
		"one place more":                   {of(right, saw("ARMAS", 0)), api.ErrShape},
		"none of the places":               {of(right, saw("", 0)), api.ErrShape},
		"as many as the second one":        {of(right, right, saw("ARMAS", 0)), api.ErrShape},
		"all letters":                      {of(saw("ABCDEFGH", 0), saw("IJKLMNOP", 1), saw("QRSTUVWX", 2), saw("YZAAAAAA", 3)), api.OK},
		"small letters":                    {of(saw("ARMa", 1)), api.ErrShape},
		"a blank":                          {of(saw("AR A", 1)), api.ErrShape},
		"a blank ahead":                    {of(saw(" ARM", 1)), api.ErrShape},
		"a bracket":                        {of(saw("AR[A", 1)), api.ErrShape},
		"a byte ahead of A":                {of(saw("AR@A", 1)), api.ErrShape},
		"a digit":                          {of(saw("AR0A", 1)), api.ErrShape},
		"a hyphen":                         {of(saw("-RMA", 1)), api.ErrShape},
		"a zero byte":                      {of(saw("AR\x00A", 1)), api.ErrShape},
		"a great byte":                     {of(saw("AR\xffA", 1)), api.ErrShape},
		"a letter of two bytes":            {of(saw("AR\u00c4", 1)), api.ErrShape},
		"no letters in the second one":     {of(right, saw("AR-A", 1)), api.ErrShape},
		"no errors":                        {of(right, saw("ARMA", 0)), api.OK},
		"three errors":                     {of(right, saw("ARMA", 3)), api.OK},
		"four errors":                      {of(right, saw("ARMA", 4)), api.ErrBounds},
		"fewer than no errors":             {of(right, saw("ARMA", -1)), api.ErrBounds},
		"the most errors":                  {of(saw("ARMA", math.MaxInt)), api.ErrBounds},
		"the fewest errors":                {of(saw("ARMA", math.MinInt)), api.ErrBounds},
		"nobody saw it":                    {of(had("ARMA", 3)), api.OK},
		"a clash":                          {of(saw("A", 0), saw("B", 0)), api.OK},
		"a text before errors":             {of(saw("arma", 9)), api.ErrShape},
		"places before errors":             {of(right, saw("ARM", 9)), api.ErrShape},
		"errors before the next text":      {of(saw("ARMA", -1), saw("", 0)), api.ErrBounds},
		"errors before the next places":    {of(right, saw("ARMA", 4), saw("ARM", 0)), api.ErrBounds},
		"a text before the next errors":    {of(right, saw("ARM1", 1), saw("ARMA", 9)), api.ErrShape},
		"many before a text and errors":    {slices.Repeat(of(saw("arma", 9)), 6), api.ErrMany},
		"the places of one without places": {of(saw("", -1), saw("", 1)), api.ErrShape},
	} {
		errors, left := errorsOf(c.l, 0, 9)
		if errors[0] != c.want {
			t.Error(name, errors)
		}
		if c.want != api.OK && (left || slices.Min(errors) != c.want || slices.Max(errors) != c.want) {
			t.Error(name, errors, left)
		}
	}
}

// same reports whether lists of verdicts are the same.
func same(a, b [][]int) bool { return slices.EqualFunc(a, b, slices.Equal[[]int]) }

// example is a tradition that may be, and what has to be said of it: the sources of each copy, what it depends on, the text as it is printed, and the fewest errors.
type example struct {
	l      []api.Copy
	from   [][]int
	on     [][]int
	print  string
	fewest int
}

func examples() map[string]example {
	return map[string]example{
		"L":                             {traditionL(), [][]int{{y}, {y, n}, {n, n, y}}, [][]int{{n, n, n}, {n, n, n}, {n, y, n}}, "ARMO", 2},
		"M":                             {traditionM(), [][]int{{y}, {o, o}, {n, n, y}}, [][]int{{n, n, n}, {o, n, n}, {o, y, n}}, "----", 2},
		"N":                             {traditionN(), [][]int{{y}, {o, o}, {n, n, y}}, [][]int{{n, n, n}, {o, n, n}, {o, y, n}}, "ARMA", 2},
		"one copy, no errors":           {of(saw("STONE", 0)), [][]int{{y}}, [][]int{{n}}, "STONE", 0},
		"one copy, one error":           {of(saw("STONE", 1)), [][]int{{y}}, [][]int{{n}}, "-----", 0},
		"one place, three errors":       {of(saw("Z", 3)), [][]int{{y}}, [][]int{{n}}, "-", 0},
		"eight places":                  {of(saw("ABCDEFGH", 0)), [][]int{{y}}, [][]int{{n}}, "ABCDEFGH", 0},
		"two alike":                     {of(saw("AB", 0), saw("AB", 0)), [][]int{{y}, {o, o}}, [][]int{{n, n}, {o, n}}, "AB", 0},
		"two alike, one stone":          {of(saw("AB", 0), had("AB", 0)), [][]int{{y}, {n, y}}, [][]int{{n, n}, {y, n}}, "AB", 0},
		"as many errors as allowed":     {of(saw("AAAA", 0), had("ABBB", 3)), [][]int{{y}, {n, y}}, [][]int{{n, n}, {y, n}}, "AAAA", 3},
		"one error too many for it":     {of(saw("AAAA", 1), saw("ABBB", 2)), [][]int{{y}, {y, n}}, [][]int{{n, n}, {n, n}}, "A---", 3},
		"as many errors as both":        {of(saw("AAAA", 2), saw("BBBB", 2)), [][]int{{y}, {y, n}}, [][]int{{n, n}, {n, n}}, "----", 4},
		"one error left":                {of(saw("AAAA", 2), saw("ABBB", 2)), [][]int{{y}, {y, n}}, [][]int{{n, n}, {n, n}}, "A---", 3},
		"of two others":                 {of(saw("AA", 0), had("AB", 1), had("BA", 1), had("BB", 1)), [][]int{{y}, {n, y}, {n, y, n}, {n, n, o, o}}, [][]int{{n, n, n, n}, {y, n, n, n}, {y, n, n, n}, {y, o, o, n}}, "AA", 3},
		"of the stone or two others":    {of(saw("AB", 1), saw("AB", 0), saw("AB", 0)), [][]int{{y}, {o, o}, {o, o, o}}, [][]int{{n, n, n}, {o, n, n}, {o, o, n}}, "--", 0},
		"by way of several":             {of(saw("AAA", 0), had("AAB", 1), had("ABB", 1), had("BBB", 1)), [][]int{{y}, {n, y}, {n, n, y}, {n, n, n, y}}, [][]int{{n, n, n, n}, {y, n, n, n}, {y, y, n, n}, {y, y, y, n}}, "AAA", 3},
		"by way of four":                {of(saw("AAAA", 0), had("AAAB", 1), had("AABB", 1), had("ABBB", 1), had("BBBB", 1)), [][]int{{y}, {n, y}, {n, n, y}, {n, n, n, y}, {n, n, n, n, y}}, [][]int{{n, n, n, n, n}, {y, n, n, n, n}, {y, y, n, n, n}, {y, y, y, n, n}, {y, y, y, y, n}}, "AAAA", 4},
		"surely of one, not from which": {of(saw("AA", 0), had("AA", 0), had("AA", 0)), [][]int{{y}, {n, y}, {n, o, o}}, [][]int{{n, n, n}, {y, n, n}, {y, o, n}}, "AA", 0},
		"never of a later one":          {of(saw("AB", 1), saw("AA", 1), saw("AA", 0)), [][]int{{y}, {o, o}, {o, n, o}}, [][]int{{n, n, n}, {o, n, n}, {o, o, n}}, "--", 1},
		"a stone between two":           {of(saw("AA", 1), saw("BB", 1)), [][]int{{y}, {y, n}}, [][]int{{n, n}, {n, n}}, "--", 2},
		"a stone among three":           {of(saw("AAB", 1), saw("ABA", 1), saw("BAA", 1)), [][]int{{y}, {y, n}, {y, n, n}}, [][]int{{n, n, n}, {n, n, n}, {n, n, n}}, "AAA", 3},
		"fewest by way of a copy":       {of(saw("AAAA", 2), saw("BBAA", 0), had("BBAC", 1)), [][]int{{y}, {y, n}, {n, n, y}}, [][]int{{n, n, n}, {n, n, n}, {n, y, n}}, "BBAA", 3},
		"fewest with one source each":   {of(saw("AAAA", 3), saw("BBAA", 2), saw("BBCC", 2), had("BBCC", 3)), [][]int{{y}, {o, o}, {o, n, o}, {n, n, o, o}}, [][]int{{n, n, n, n}, {o, n, n, n}, {o, o, n, n}, {o, o, o, n}}, "----", 4},
		"a stone or a copy, not two":    {of(saw("AAA", 0), saw("ABB", 2), saw("BBB", 1)), [][]int{{y}, {o, o}, {n, n, y}}, [][]int{{n, n, n}, {o, n, n}, {o, y, n}}, "AAA", 3},
		"the most errors":               {slices.Repeat(of(saw("ABCDEFGH", 3)), 5), [][]int{{y}, {o, o}, {o, o, o}, {o, o, o, o}, {o, o, o, o, o}}, [][]int{{n, n, n, n, n}, {o, n, n, n, n}, {o, o, n, n, n}, {o, o, o, n, n}, {o, o, o, o, n}}, "--------", 0},
	}
}

func TestSourcesP7_1(t *testing.T) {
	for name, c := range examples() {
		if from, e := Sources(c.l); e != api.OK || !same(from, c.from) {
			t.Error(name, from, e)
		}
	}
}

func TestDependsP7_1(t *testing.T) {
	for name, c := range examples() {
		for a := range c.l {
			for b := range c.l {
				if v, e := Depends(c.l, a, b); v != c.on[a][b] || e != api.OK {
					t.Error(name, a, b, v, e)
				}
			}
		}
	}
}

func TestAbsentP7_1(t *testing.T) {
	clash := of(had("A", 3))
	for i, c := range []struct {
		l    []api.Copy
		a, b int
		want api.Errno
	}{
		{traditionL(), 3, 0, api.ErrAbsent},
		{traditionL(), 0, 3, api.ErrAbsent},
		{traditionL(), -1, 0, api.ErrAbsent},
		{traditionL(), 0, -1, api.ErrAbsent},
		{traditionL(), 3, 3, api.ErrAbsent},
		{traditionL(), -1, -1, api.ErrAbsent},
		{traditionL(), 4, 4, api.ErrAbsent},
		{traditionL(), math.MaxInt, math.MinInt, api.ErrAbsent},
		{clash, 1, 0, api.ErrAbsent},
		{clash, 0, 1, api.ErrAbsent},
		{clash, 0, 0, api.ErrClash},
		{nil, 0, 0, api.ErrFew},
		{of(saw("A", 4)), 5, 5, api.ErrBounds},
		{of(saw("A", 0)), 0, 0, api.OK},
	} {
		if v, e := Depends(c.l, c.a, c.b); e != c.want || e != api.OK && v != 0 {
			t.Error(i, v, e)
		}
	}
}

func TestClashP7_1(t *testing.T) {
	for name, l := range map[string][]api.Copy{
		"L with the copy 1 not seen":     of(saw("ARMA", 1), had("ARMO", 0), had("ERMO", 1)),
		"nobody saw it":                  of(had("A", 3)),
		"nobody saw it at first":         of(had("AA", 1), saw("AA", 1)),
		"nobody saw it, five times":      slices.Repeat(of(had("AAAAAAAA", 3)), 5),
		"no source in any other copy":    of(saw("AAA", 1), had("BBB", 2)),
		"a source in a later copy alone": of(saw("AAA", 0), had("ABB", 1), had("AAB", 1)),
		"two stones":                     of(saw("A", 0), saw("B", 0)),
		"two stones, one error each":     of(saw("AAA", 1), saw("BBB", 1)),
		"two stones, too many errors":    of(saw("AAAAAAAA", 3), saw("ABBBBBBB", 3)),
		"three stones, no two of them":   of(saw("AAAA", 2), saw("BBAA", 1), saw("AACC", 0), saw("BBAA", 0)),
		"N with no errors in the copy 1": of(saw("ARMA", 0), saw("ARMO", 0), had("ERMO", 1)),
		"no stone for the third one":     of(saw("AA", 0), saw("AB", 0), saw("BB", 3)),
		"no stone, but a later copy":     of(saw("AAA", 0), saw("ABB", 1), saw("ABB", 2)),
		"one error too many":             of(saw("AAAA", 0), had("BBBB", 3)),
	} {
		errors, left := errorsOf(l, 0, 0)
		if left || slices.Max(errors[:2]) != api.OK || slices.Min(errors[2:]) != api.ErrClash || slices.Max(errors[2:]) != api.ErrClash {
			t.Error(name, errors, left)
		}
	}
}

func TestLettersP7_2(t *testing.T) {
	all := func(places int) []string { return slices.Repeat([]string{abc}, places) }
	for name, c := range map[string]struct {
		l    []api.Copy
		want []string
	}{
		"L":                           {traditionL(), []string{"A", "R", "M", "O"}},
		"M":                           {traditionM(), all(4)},
		"N":                           {traditionN(), []string{"A", "R", "M", "A"}},
		"one copy, no errors":         {of(saw("Z", 0)), []string{"Z"}},
		"one copy, one error":         {of(saw("Z", 1)), all(1)},
		"one copy, many errors":       {of(saw("ABCDEFGH", 1)), all(8)},
		"the first and the last one":  {of(saw("AZ", 0), saw("ZA", 2)), []string{"A", "Z"}},
		"one place that differs":      {of(saw("AB", 1), saw("AC", 1)), all(2)},
		"two places that differ":      {of(saw("AAA", 1), saw("ABB", 1)), []string{"A", "AB", "AB"}},
		"in the order of letters":     {of(saw("BZ", 1), saw("AY", 1)), []string{"AB", "YZ"}},
		"two errors":                  {of(saw("AAA", 1), saw("ABB", 2)), []string{abc, abc, abc}},
		"two errors, four places":     {of(saw("AAAA", 1), saw("ABBB", 2)), []string{"A", "AB", "AB", "AB"}},
		"two errors, one too few":     {of(saw("AAA", 0), saw("ABB", 2)), []string{"A", "A", "A"}},
		"a letter that none has":      {of(saw("AB", 1), saw("CB", 1), saw("DB", 1)), all(2)},
		"letters of three copies":     {of(saw("CAAA", 1), saw("AABB", 2), saw("BBAB", 3)), []string{"AC", "A", "AB", "AB"}},
		"the letter of most":          {of(saw("AAB", 1), saw("ABA", 1), saw("BAA", 1)), []string{"A", "A", "A"}},
		"the letter of a copy":        {of(saw("AAAA", 2), saw("BBAA", 0), had("BBAC", 1)), []string{"B", "B", "A", "A"}},
		"a copy that tells nothing":   {of(saw("XY", 0), had("XZ", 1)), []string{"X", "Y"}},
		"a copy that may be from two": {of(saw("AA", 1), saw("BB", 1), saw("BB", 0)), []string{"AB", "AB"}},
		"a copy from the other one":   {of(saw("AAA", 1), saw("ABB", 0), saw("ABC", 1)), nil},
	} {
		l, e := Letters(c.l)
		if !slices.Equal(l, c.want) || (e == api.OK) != (c.want != nil) {
			t.Error(name, l, e)
		}
	}
}

func TestPrintP7_2(t *testing.T) {
	for name, c := range examples() {
		if s, e := Print(c.l); s != c.print || e != api.OK {
			t.Error(name, s, e)
		}
	}
	if s, e := Print(of(saw("AAA", 1), saw("ABB", 1))); s != "A--" || e != api.OK {
		t.Error(s, e)
	}
}

func TestFewestP7_3(t *testing.T) {
	for name, c := range examples() {
		if n, e := Fewest(c.l); n != c.fewest || e != api.OK {
			t.Error(name, n, e)
		}
	}
	most := of(saw("AAAAAAAA", 0), had("BBBAAAAA", 3), had("AAABBBAA", 3), had("AAAAABBB", 3), had("CCAAAAAC", 3))
	if n, e := Fewest(most); n != 12 || e != api.OK {
		t.Error(n, e)
	}
	stones := of(saw("BBBAAAAA", 3), saw("AAABBBAA", 3), saw("CCAAAAAC", 3), saw("ADDAAAAD", 3), saw("AAAAEEEA", 3))
	if n, e := Fewest(stones); n != 15 || e != api.OK {
		t.Error(n, e)
	}
}

// wild are numbers far outside all limits, and some within.
func wild(i int) int {
	list := []int{0, 1, 2, 3, 4, 5, -1, 6, math.MinInt, math.MinInt + 5, math.MaxInt, math.MaxInt - 5, 1 << 32, -1 << 32}
	return list[(i%len(list)+len(list))%len(list)]
}

// anyTradition returns copies most of which are within the limits.
func anyTradition(i int) []api.Copy {
	texts := []string{"ARMA", "ARMO", "ERMO", "ORMO", "ARMS", "ARMA", "ARME", "URMA"}
	odd := []string{"", "ARM", "arma", "AR\xffA", "ABCDEFGHI", "AR A", strings.Repeat("A", 1000)}
	var l []api.Copy
	for k := range i % 7 {
		c := api.Copy{Text: texts[(i/7+k*k)%len(texts)], Errors: (i/3 + k) % 4, Saw: (i/5+k)%3 > 0}
		if (i+k)%37 == 0 {
			c.Text = odd[(i/37+k)%len(odd)]
		}
		if (i+k)%41 == 0 {
			c.Errors = wild(i / 41)
		}
		l = append(l, c)
	}
	return l
}

func TestAnyArgumentsP1(t *testing.T) {
	valid := 0
	for i := range 30000 {
		l := anyTradition(i)
		errors, left := errorsOf(l, wild(i/3), wild(i/19))
		if errors[0] == api.OK {
			valid++
		} else if left || slices.Min(errors) != errors[0] || slices.Max(errors) != errors[0] {
			t.Fatal(i, l, errors)
		}
	}
	if valid < 10000 {
		t.Error("too few are valid:", valid)
	}
}

// TestStoppedP1 stops while sources and letters are handed out.
func TestStoppedP1(t *testing.T) {
	l, handed := traditionM(), 0
	for range descents(l) {
		handed++
		break
	}
	for range choices(l, 0) {
		handed++
		break
	}
	if handed != 2 {
		t.Error(handed)
	}
}

func TestAnyListsP1(t *testing.T) {
	bytes := []byte("placesw hdoi12349AZ\n \xff\x00")
	text, _ := Write(traditionL())
	for i := range 30000 {
		list := []byte(text)
		list[i*7%len(list)] = bytes[i%len(bytes)]
		list[i/7%len(list)] = bytes[i/5%len(bytes)]
		l, row, e := Read(string(list[i%3/2:]))
		if e != api.OK && l != nil || row != 0 && e != api.ErrShape || e == api.OK && Check(l) != api.OK {
			t.Fatal(i, string(list), l, row, e)
		}
	}
}

func TestArgumentsStayR4(t *testing.T) {
	for i, s := range smalls()[:500] {
		l := slices.Clone(s.l)
		errorsOf(s.l, 0, len(s.l)-1)
		errorsOf(s.l, len(s.l)-1, 0)
		if !slices.Equal(l, s.l) {
			t.Fatal(i, l, s.l)
		}
	}
}

// TestResultsApartR4 changes results, which must change neither an argument nor another result.
func TestResultsApartR4(t *testing.T) {
	l := traditionM()
	from, _ := Sources(l)
	for _, verdicts := range from {
		_ = append(verdicts, 7)
	}
	if !same(from, examples()["M"].from) {
		t.Error(from)
	}
	for _, verdicts := range from {
		clear(verdicts)
	}
	letters, _ := Letters(l)
	clear(letters)
	if again, _ := Sources(l); !same(again, examples()["M"].from) {
		t.Error(again)
	}
	if again, _ := Letters(l); !slices.Equal(again, slices.Repeat([]string{abc}, 4)) {
		t.Error(again)
	}
	text, _ := Write(l)
	read, _, _ := Read(text)
	clear(read)
	if again, _, _ := Read(text); !slices.Equal(again, l) {
		t.Error(again)
	}
}

func TestNilAsEmptyR4(t *testing.T) {
	for _, l := range [][]api.Copy{nil, {}} {
		if errors, left := errorsOf(l, 0, 0); left || slices.Min(errors) != api.ErrFew || slices.Max(errors) != api.ErrFew {
			t.Error(errors, left)
		}
	}
}
