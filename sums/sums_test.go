package sums

import (
	"math"
	"slices"
	"strings"
	"testing"

	"cippus/api"
)

// most is the numeral with the most signs.
const most = "MMMMDCCCCLXXXXVIIII"

func TestNumberP3_1(t *testing.T) {
	for numeral, want := range map[string]int{
		"I": 1, "II": 2, "IIII": 4, "V": 5, "VI": 6, "VIIII": 9, "X": 10, "XXXX": 40, "L": 50, "LXXXXVIIII": 99, "C": 100, "CCCC": 400, "D": 500, "DCCCC": 900,
		"M": 1000, "MVI": 1006, "MDCCCCLXXXXVIIII": 1999, "MMMM": 4000, "MDCLXVI": 1666, "DLV": 555, "MI": 1001, "CXI": 111, most: 4999,
	} {
		if n, e := Number(numeral); n != want || e != api.OK {
			t.Error(numeral, n, e)
		}
		if s, e := Numeral(want); s != numeral || e != api.OK {
			t.Error(want, s, e)
		}
	}
}

func TestNoNumeralP3_1(t *testing.T) {
	for _, text := range []string{
		"", "IIIII", "XXXXX", "CCCCC", "MMMMM", "VV", "LL", "DD", "VIIIII", "DXXXXX", "MMMMMI", "DDI", "MDD", "IV", "IX", "XC", "VX", "CM", "CD", "LC", "DM", "XIX", "VIV", "MCM", "CXIC", "IVI", "VIVI",
		"m", "i", "Xv", "vX", "X?", "?", "A", "E", "X I", " X", "X ", "X\n", "-X", "0", "10", "\x00", "\xff", "X\xff", "ↅ", "Ⅴ", "XⅤ", "\u0130", most + "I", "I" + most, strings.Repeat("M", 100000), strings.Repeat("?", 100000),
	} {
		if n, e := Number(text); n != 0 || e != api.ErrShape {
			t.Errorf("%q: %d %v", text, n, e)
		}
	}
}

func TestNoNumberP3_1(t *testing.T) {
	for _, n := range []int{0, -1, -5, 5000, 5001, 10000, math.MinInt, math.MaxInt} {
		if s, e := Numeral(n); s != "" || e != api.ErrBounds {
			t.Error(n, s, e)
		}
	}
}

// errorsOf returns what each function that takes an account says is wrong, and whether any other result is not a zero value.
func errorsOf(l []api.Entry, most int) (list []api.Errno, left bool) {
	choices, e1 := Choices(l)
	many, e2 := Count(l)
	readings, e3 := Readings(l, most)
	printed, e4 := Print(l)
	struck, e5 := Struck(l)
	text, e6 := Write(l)
	return []api.Errno{e1, e2, e3, e4, e5, e6}, choices != nil || many != 0 || readings != nil || printed != nil || struck != nil || text != ""
}

func TestCheckP3_1(t *testing.T) {
	lost := func(n int) string { return "- " + strings.Repeat("?", n) }
	for name, c := range map[string]struct {
		l    []api.Entry
		want api.Errno
	}{
		"A":                                {of("- X?", "- V??", "= XX?I"), api.OK},
		"A with V?":                        {of("- X?", "- V?", "= XX?I"), api.OK},
		"A with VV":                        {of("- X?", "- VV", "= XX?I"), api.ErrNone},
		"A with another kind":              {[]api.Entry{{Kind: 1, Signs: "X?"}, {Kind: 4, Signs: "V??"}, {Kind: 2, Signs: "XX?I"}}, api.ErrSort},
		"nothing":                          {nil, api.ErrFew},
		"an empty list":                    {[]api.Entry{}, api.ErrFew},
		"one entry":                        {of("- I"), api.OK},
		"eight entries":                    {slices.Repeat(of("- I"), 8), api.OK},
		"nine entries":                     {slices.Repeat(of("- I"), 9), api.ErrMany},
		"many before sort":                 {make([]api.Entry, 9), api.ErrMany},
		"kind 0":                           {[]api.Entry{{Signs: "X"}}, api.ErrSort},
		"kind -1":                          {[]api.Entry{{Kind: -1, Signs: "X"}}, api.ErrSort},
		"kind 2":                           {[]api.Entry{{Kind: 2, Signs: "X"}}, api.OK},
		"kind 3":                           {[]api.Entry{{Kind: 3, Signs: "X"}}, api.OK},
		"kind 4":                           {[]api.Entry{{Kind: 4, Signs: "X"}}, api.ErrSort},
		"the least kind":                   {[]api.Entry{{Kind: math.MinInt, Signs: "X"}}, api.ErrSort},
		"sort before shape":                {[]api.Entry{{Kind: 4, Signs: "x"}}, api.ErrSort},
		"sort behind shape":                {[]api.Entry{{Kind: 1, Signs: "x"}, {Kind: 4, Signs: "X"}}, api.ErrShape},
		"no signs":                         {of("- X", "- "), api.ErrShape},
		"nineteen signs":                   {of("- " + most), api.OK},
		"nineteen, one lost":               {of("- MMMMDCCCCLXXXXVIII?"), api.OK},
		"nineteen, another lost":           {of("- ?MMMDCCCCLXXXXVIIII"), api.OK},
		"nineteen that cannot be":          {of("- MMMMDCCCCLXXXXVIIIV"), api.ErrNone},
		"twenty signs":                     {of("- " + most + "I"), api.ErrShape},
		"twenty lost":                      {of(lost(20)), api.ErrShape},
		"a very long one":                  {of("- " + strings.Repeat("I", 100000)), api.ErrShape},
		"a small letter":                   {of("- X", "- x"), api.ErrShape},
		"a small letter at the end":        {of("- XXx"), api.ErrShape},
		"a star":                           {of("- X*"), api.ErrShape},
		"another letter":                   {of("- A"), api.ErrShape},
		"a blank":                          {of("- X I"), api.ErrShape},
		"a line feed":                      {of("- X\n"), api.ErrShape},
		"bytes of no rune":                 {of("- \xff\xfe"), api.ErrShape},
		"bytes of another rune":            {of("- XⅤ"), api.ErrShape},
		"a byte that a sign's rune ends":   {of("- \u0158"), api.ErrShape},
		"shape before none":                {of("- IVx"), api.ErrShape},
		"shape behind none":                {of("- IV", "- x"), api.ErrNone},
		"five of a sign":                   {of("- IIIII"), api.ErrNone},
		"four of a sign":                   {of("- IIII"), api.OK},
		"four of a sign and one lost":      {of("- IIII?"), api.ErrNone},
		"one lost ahead of four":           {of("- ?IIII"), api.OK},
		"one lost ahead of M":              {of("- ?M"), api.OK},
		"one lost ahead of four M":         {of("- ?MMMM"), api.ErrNone},
		"one lost behind I":                {of("- I?"), api.OK},
		"one lost between two V":           {of("- V?V"), api.ErrNone},
		"one lost between V and I":         {of("- V?I"), api.OK},
		"one lost between I and X":         {of("- I?X"), api.ErrNone},
		"one lost ahead of D, two of them": {of("- D?D"), api.ErrNone},
		"five lost":                        {of(lost(5)), api.OK},
		"six lost":                         {of(lost(6)), api.ErrMany},
		"nineteen lost":                    {of(lost(19)), api.ErrMany},
		"five lost in five entries":        {of("- ?", "= ?", "# ?", "- ?", "- ?"), api.OK},
		"five and one lost":                {of(lost(5), "- X", "- ?"), api.ErrMany},
		"six lost in six entries":          {of("- ?", "= ?", "# ?", "- ?", "- ?", "- ?"), api.ErrMany},
		"none before many":                 {of(lost(6), "- VV"), api.ErrNone},
		"shape before many":                {of(lost(6), "- v"), api.ErrShape},
		"sort before many":                 {append(of(lost(6)), api.Entry{Signs: "V"}), api.ErrSort},
		"none, with many lost":             {of("- ???????????????V"), api.ErrNone},
		"many lost, but one fits":          {of("- ??????????????V???"), api.ErrMany},
		"nothing that adds up":             {of("= V"), api.OK},
	} {
		if e := Check(c.l); e != c.want {
			t.Error(name, e, c.want)
		}
		if c.want == api.OK {
			continue
		}
		errors, left := errorsOf(c.l, 0)
		if left || slices.Min(errors) != c.want || slices.Max(errors) != c.want {
			t.Error(name, errors, left)
		}
	}
}

// everyOne are the numbers whose numerals have one sign.
var everyOne = []int{1, 5, 10, 50, 100, 500, 1000}

// added returns the numbers, each with n added.
func added(numbers []int, n int) []int {
	var list []int
	for _, m := range numbers {
		list = append(list, m+n)
	}
	return list
}

// accounts are accounts with what they show in all readings.
var accounts = map[string]struct {
	l       []api.Entry
	choices [][]int
	many    int
	printed []string
}{
	"A":                             {of("- X?", "- V??", "= XX?I"), [][]int{{15}, {7}, {22}}, 1, []string{"Xv", "Vii", "XXiI"}},
	"B":                             {of("- ?", "- I", "= ?I"), [][]int{everyOne, {1}, added(everyOne, 1)}, 7, []string{"?", "I", "?I"}},
	"C":                             {of("- X", "- V", "= XX"), nil, 0, nil},
	"C, right":                      {of("- X", "- V", "= XV"), [][]int{{10}, {5}, {15}}, 1, []string{"X", "V", "XV"}},
	"one item":                      {of("- X?"), [][]int{{11, 15, 20}}, 3, []string{"X?"}},
	"five of I, or four":            {of("- III?"), [][]int{{4}}, 1, []string{"IIIi"}},
	"V, not twice":                  {of("- V?"), [][]int{{6}}, 1, []string{"Vi"}},
	"shared at one place":           {of("- ??", "= V?"), [][]int{{6}, {6}}, 1, []string{"vi", "Vi"}},
	"shared at another place":       {of("- ?II"), [][]int{{3, 7, 12, 52, 102, 502, 1002}}, 7, []string{"?II"}},
	"at one place, not at another":  {of("- X??II", "# XXX??"), [][]int{{32}, {32}}, 1, []string{"XxxII", "XXXii"}},
	"one place alone":               {of("- L??I"), [][]int{{53, 57, 62, 66, 71}}, 5, []string{"L??I"}},
	"i at the end":                  {of("- V??"), [][]int{{7}}, 1, []string{"Vii"}},
	"all small letters":             {of("- ?", "- DCLXVI", "= MDCLXVI"), [][]int{{1000}, {666}, {1666}}, 1, []string{"m", "DCLXVI", "MDCLXVI"}},
	"d":                             {of("- ?", "- I", "= DI"), [][]int{{500}, {1}, {501}}, 1, []string{"d", "I", "DI"}},
	"c":                             {of("- ?", "- I", "= CI"), [][]int{{100}, {1}, {101}}, 1, []string{"c", "I", "CI"}},
	"l":                             {of("- ?", "- I", "= LI"), [][]int{{50}, {1}, {51}}, 1, []string{"l", "I", "LI"}},
	"a sum without items":           {of("= I"), nil, 0, nil},
	"a lost sum without items":      {of("= ?"), nil, 0, nil},
	"two sums in a row":             {of("- X", "= X", "= X"), nil, 0, nil},
	"two sums in a row, lost":       {of("- X", "= X", "= ?"), nil, 0, nil},
	"all, ahead of all items":       {of("# I", "- I"), nil, 0, nil},
	"all, lost, ahead of all items": {of("# ?", "- I"), nil, 0, nil},
	"all behind two sums":           {of("- V", "= V", "- X", "= X", "# XV"), [][]int{{5}, {5}, {10}, {10}, {15}}, 1, []string{"V", "V", "X", "X", "XV"}},
	"all behind a sum alone":        {of("- V", "= V", "- X", "= X", "# X"), nil, 0, nil},
	"all between items":             {of("- V", "# V", "- I", "= VI", "# VI"), [][]int{{5}, {5}, {1}, {6}, {6}}, 1, []string{"V", "V", "I", "VI", "VI"}},
	"all is no end of a sum":        {of("- V", "# V", "- I", "= I"), nil, 0, nil},
	"all twice":                     {of("- V", "# V", "# V"), [][]int{{5}, {5}, {5}}, 1, []string{"V", "V", "V"}},
	"all, and items without a sum":  {of("- I?", "- V?", "# ?III"), [][]int{{2}, {6}, {8}}, 1, []string{"Ii", "Vi", "vIII"}},
	"items behind the last sum":     {of("- X", "= X", "- V", "- M"), [][]int{{10}, {10}, {5}, {1000}}, 1, []string{"X", "X", "V", "M"}},
	"a lost sum":                    {of("- X", "= ?", "- V", "# ??"), [][]int{{10}, {10}, {5}, {15}}, 1, []string{"X", "x", "V", "xv"}},
	"a sum of the greatest":         {of("- MMMM", "- DCCCCLXXXXVIIII", "= "+most), [][]int{{4000}, {999}, {4999}}, 1, []string{"MMMM", "DCCCCLXXXXVIIII", most}},
	"a sum too great":               {of("- "+most, "- I", "= ?????"), nil, 0, nil},
	"items too great together":      {of("- "+most, "- I"), [][]int{{4999}, {1}}, 1, []string{most, "I"}},
	"items too great for all":       {of("- MMMM", "= MMMM", "- MMMM", "= MMMM", "# MMMM?"), nil, 0, nil},
	"two that are the same":         {of("- ?", "= ?"), [][]int{everyOne, everyOne}, 7, []string{"?", "?"}},
	"two that make one":             {of("- ?", "- ?", "= X"), [][]int{{5}, {5}, {10}}, 1, []string{"v", "v", "X"}},
	"two that are not alike":        {of("- ?", "- ?", "= XV"), [][]int{{5, 10}, {5, 10}, {15}}, 2, []string{"?", "?", "XV"}},
	"seven times seven":             {of("- ?", "= ?", "- ?", "= ?", "- I"), [][]int{everyOne, everyOne, everyOne, everyOne, {1}}, 49, []string{"?", "?", "?", "?", "I"}},
}

func TestChoicesP3_2(t *testing.T) {
	for name, c := range accounts {
		want := api.OK
		if c.many == 0 {
			want = api.ErrClash
		}
		choices, e := Choices(c.l)
		many, f := Count(c.l)
		if e != want || f != api.OK || many != c.many || !sameLists(choices, c.choices) {
			t.Error(name, choices, many, e, f)
		}
	}
}

func TestCountP3_2(t *testing.T) {
	for name, c := range map[string]struct {
		l    []api.Entry
		want int
	}{
		"one sign lost":      {of("- ?"), 7},
		"two signs lost":     {of("- ??"), 25},
		"two entries":        {of("- ?", "- ?"), 49},
		"five entries":       {of("- ?", "- ?", "- ?", "- ?", "- ?"), 7 * 7 * 7 * 7 * 7},
		"five and others":    {of("- ?", "- ?", "- X", "= ??", "- ?"), len(truths(of("- ?", "- ?", "- X", "= ??"))) * 7},
		"five in one entry":  {of("- ?????"), len(numbersOf("?????"))},
		"none":               {of("- ?", "= I?", "= ?"), 0},
		"none, whatever fit": {of("- ?", "- ?", "- ?", "- ?", "- ?", "= I"), 0},
	} {
		if n, e := Count(c.l); n != c.want || e != api.OK {
			t.Error(name, n, c.want, e)
		}
	}
}

func TestReadingsP3_2(t *testing.T) {
	b := of("- ?", "- I", "= ?I")
	for name, c := range map[string]struct {
		l    []api.Entry
		most int
		want [][]int
		e    api.Errno
	}{
		"A":                  {of("- X?", "- V??", "= XX?I"), 9, [][]int{{15, 7, 22}}, api.OK},
		"A, one":             {of("- X?", "- V??", "= XX?I"), 1, [][]int{{15, 7, 22}}, api.OK},
		"B":                  {b, 2, [][]int{{1, 1, 2}, {5, 1, 6}}, api.OK},
		"B, one":             {b, 1, [][]int{{1, 1, 2}}, api.OK},
		"B, all but one":     {b, 6, truths(b)[:6], api.OK},
		"B, all":             {b, 7, truths(b), api.OK},
		"B, more":            {b, 50, truths(b), api.OK},
		"none asked":         {b, 0, nil, api.ErrBounds},
		"less than none":     {b, -1, nil, api.ErrBounds},
		"too many asked":     {b, 51, nil, api.ErrBounds},
		"far too many":       {b, math.MaxInt, nil, api.ErrBounds},
		"bounds and clash":   {of("= X"), 0, nil, api.ErrBounds},
		"clash":              {of("= X"), 1, nil, api.ErrClash},
		"C":                  {of("- X", "- V", "= XX"), 50, nil, api.ErrClash},
		"fifty of more":      {of("- ?", "- ?", "- ?"), 50, truths(of("- ?", "- ?", "- ?"))[:50], api.OK},
		"one of very many":   {of("- ?", "- ?", "- ?", "- ?", "- ?"), 1, [][]int{{1, 1, 1, 1, 1}}, api.OK},
		"the last one first": {of("- I?", "- ?"), 3, [][]int{{2, 1}, {2, 5}, {2, 10}}, api.OK},
		"numbers, not signs": {of("- X?"), 3, [][]int{{11}, {15}, {20}}, api.OK},
	} {
		if list, e := Readings(c.l, c.most); e != c.e || !sameLists(list, c.want) {
			t.Error(name, list, e)
		}
	}
}

func TestPrintP3_3(t *testing.T) {
	for name, c := range accounts {
		want := api.OK
		if c.many == 0 {
			want = api.ErrClash
		}
		if printed, e := Print(c.l); e != want || !slices.Equal(printed, c.printed) {
			t.Error(name, printed, e)
		}
	}
}

// TestPrintPlacesP3_3 has places that all readings share beside others that they do not share.
func TestPrintPlacesP3_3(t *testing.T) {
	for name, c := range map[string]struct{ l, want []string }{
		"xi, not vi":           {[]string{"- ??", "- IIII", "# X?"}, []string{"xi", "IIII", "Xv"}},
		"within one entry":     {[]string{"- ?VI?"}, []string{"?VIi"}},
		"behind V":             {[]string{"- ?V?"}, []string{"?Vi"}},
		"ahead of five":        {[]string{"- ?IIII"}, []string{"?IIII"}},
		"the first, not after": {[]string{"- MMM?C"}, []string{"MMM?C"}},
		"two of three":         {[]string{"- D?", "- D?", "= M??"}, []string{"D?", "D?", "M??"}},
		"one of two":           {[]string{"- ??", "- V", "= ?VI"}, []string{"?i", "V", "?VI"}},
		"the other of two":     {[]string{"- M?", "- I", "# M?I"}, []string{"M?", "I", "M?I"}},
	} {
		if printed, e := Print(of(c.l...)); e != api.OK || !slices.Equal(printed, c.want) {
			t.Error(name, printed, e)
		}
	}
}

func TestStruckP3_4(t *testing.T) {
	for name, c := range map[string]struct {
		l    []api.Entry
		want []int
		e    api.Errno
	}{
		"A":                            {of("- X?", "- V??", "= XX?I"), nil, api.OK},
		"B":                            {of("- ?", "- I", "= ?I"), nil, api.OK},
		"C":                            {of("- X", "- V", "= XX"), []int{2}, api.OK},
		"C with V as its sum":          {of("- X", "- V", "= V"), []int{0}, api.OK},
		"C with X as its sum":          {of("- X", "- V", "= X"), []int{1}, api.OK},
		"a sum alone":                  {of("= X"), nil, api.ErrClash},
		"all alone":                    {of("# X"), nil, api.ErrClash},
		"lost sums alone":              {of("= ?", "# ?", "= ?"), nil, api.ErrClash},
		"eight sums":                   {slices.Repeat(of("= X"), 8), nil, api.ErrClash},
		"an item alone":                {of("- X"), nil, api.OK},
		"an item behind a sum":         {of("= X", "- X"), []int{0}, api.OK},
		"seven sums and an item":       {append(slices.Repeat(of("# X"), 7), of("- X")...), []int{0, 1, 2, 3, 4, 5, 6}, api.OK},
		"the first of two that might":  {of("- X", "- X", "= X"), []int{0}, api.OK},
		"not the first but fewer":      {of("- X", "- V", "- I", "= XX"), []int{3}, api.OK},
		"not the lesser but fewer":     {of("- X", "= V", "- I", "= I", "# XI"), []int{1, 3}, api.OK},
		"the first of pairs":           {of("- X", "- V", "= XX", "# X"), []int{1, 2}, api.OK},
		"two sums, both wrong":         {of("- X", "- V", "= XX", "# XXX"), []int{2, 3}, api.OK},
		"one of two sums in a row":     {of("- V", "= X", "= V"), []int{1}, api.OK},
		"the sum before is struck out": {of("- X", "= V", "- V", "= XV"), []int{1}, api.OK},
		"items of a sum struck out":    {of("- X", "= V", "- V", "= X"), []int{1, 2}, api.OK},
		"with lost signs":              {of("- X?", "- V", "= XXX"), []int{2}, api.OK},
		"lost signs that help":         {of("- X?", "- V", "= X??"), nil, api.OK},
		"lost signs of one that stays": {of("- X??", "- L", "= X??"), []int{1}, api.OK},
	} {
		if struck, e := Struck(c.l); e != c.e || !slices.Equal(struck, c.want) {
			t.Error(name, struck, e)
		}
	}
}

// wild are entries far outside all limits, and some within.
func wild(i int) api.Entry {
	kinds := []int{1, 2, 3, 1, 1, 2, 1, 0, 4, -1, math.MinInt, math.MaxInt}
	signs := []string{"X", "?", "V?", "I", "??", "XX", "MMMM?", "IV", "", "x", "\xff?", "???????????????????", strings.Repeat("?", 20), strings.Repeat("M", 1000), "X\n"}
	return api.Entry{Kind: kinds[i*7%len(kinds)], Signs: signs[i*11%len(signs)]}
}

func TestAnyArgumentsP1(t *testing.T) {
	for i := range 6000 {
		var l []api.Entry
		for k := range i % 10 {
			l = append(l, wild(i/10*(k+1)+k*k))
		}
		if errors, left := errorsOf(l, i%60-4); Check(l) != api.OK && left {
			t.Fatal(i, l, errors)
		}
	}
	bytes := []byte("account 123\n-=#XVI? \n\xff\x00")
	for i := range 6000 {
		text := []byte("account 2\n- X?\n= X?\n")
		text[i%len(text)] = bytes[i%len(bytes)]
		text[i/7%len(text)] = bytes[i/5%len(bytes)]
		if l, _, e := Read(string(text[:len(text)-i%3])); e != api.OK && l != nil {
			t.Fatal(i, string(text), l, e)
		}
		Number(string(text[10:]))
		Numeral(i - 500)
	}
}

func TestArgumentsStayR4(t *testing.T) {
	for i, s := range smalls()[:200] {
		l := slices.Clone(s.l)
		errorsOf(l, 50)
		if !slices.Equal(l, s.l) {
			t.Fatal(i, l, s.l)
		}
	}
}

// TestResultsApartR4 changes each list of a result, which must not change another one.
func TestResultsApartR4(t *testing.T) {
	l := of("- ?", "= ?", "- ?", "= ?")
	get := func() [][]int {
		choices, _ := Choices(l)
		readings, _ := Readings(l, 49)
		return append(choices, readings...)
	}
	all, want := get(), get()
	for i, list := range all {
		if !slices.Equal(list, want[i]) {
			t.Fatal(i, list, want[i])
		}
		for k := range list {
			list[k] = -1
		}
		_ = append(list, -1)
	}
	if again := get(); len(want) != 53 || !sameLists(again, want) {
		t.Error(again, want)
	}
}

// TestOtherPanics tests that leaving a search hides nothing but that it was left.
func TestOtherPanics(t *testing.T) {
	defer func() {
		if cause := recover(); cause != "another" {
			t.Error(cause)
		}
	}()
	accountOf(of("- X")).search(func([]int) { panic("another") })
}
