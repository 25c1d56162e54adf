package sight

import (
	"math"
	"reflect"
	"slices"
	"testing"

	"cippus/api"
)

// greatest is a line with all lists as long, and all numbers as great, as they may be.
func greatest() api.Line {
	l := api.Line{Worn: 10, Scratched: 10, Total: 40}
	for range api.MaxHands {
		hand := api.Hand{Years: api.Span{Low: 3000, High: 3000}}
		for i := range api.MaxShapes {
			hand.Shapes = append(hand.Shapes, api.Shape{Letter: 'S' + byte(i), Strokes: 1023})
		}
		l.Hands = append(l.Hands, hand)
	}
	for range api.MaxSquares {
		l.Squares = append(l.Squares, []api.Light{{Shows: 1023, Seen: 1023}, {Shows: 1023, Seen: 1023}, {Shows: 1023, Seen: 1023}, {Shows: 1023, Seen: 1023}})
	}
	return l
}

// smallest is a line with all lists as short, and all numbers as small, as they may be.
func smallest() api.Line {
	return api.Line{Hands: []api.Hand{{Years: api.Span{Low: -3000, High: -3000}, Shapes: []api.Shape{{Letter: 'A', Strokes: 1}}}}, Squares: [][]api.Light{nil}}
}

// errorsOf returns what each function that takes a line says is wrong with it, and whether any other result is not a zero value.
func errorsOf(l api.Line) (list []api.Errno, left bool) {
	hands, e1 := Hands(l)
	letters, e2 := Letters(l)
	years, e3 := Years(l)
	text, e4 := Print(l)
	marks, e5 := Marks(l)
	square, rest, e6 := Look(l)
	sheet, e7 := Write(l)
	left = hands != nil || letters != nil || years != api.Span{} || text != "" || marks != 0 || square != 0 || rest != 0 || sheet != ""
	return []api.Errno{Check(l), e1, e2, e3, e4, e5, e6, e7}, left
}

func TestErrorsP1_1(t *testing.T) {
	hand := func(change func(h *api.Hand)) api.Line { return with(func(l *api.Line) { change(&l.Hands[1]) }) }
	for name, c := range map[string]struct {
		l    api.Line
		want api.Errno
	}{
		"no hand":                     {with(func(l *api.Line) { l.Hands = nil }), api.ErrFew},
		"five hands":                  {with(func(l *api.Line) { l.Hands = append(l.Hands, l.Hands[0], l.Hands[0], l.Hands[0]) }), api.ErrMany},
		"Low below":                   {hand(func(h *api.Hand) { h.Years.Low = -3001 }), api.ErrBounds},
		"Low above":                   {hand(func(h *api.Hand) { h.Years.Low = 3001 }), api.ErrBounds},
		"High below":                  {hand(func(h *api.Hand) { h.Years.High = -3001 }), api.ErrBounds},
		"High above":                  {hand(func(h *api.Hand) { h.Years.High = 3001 }), api.ErrBounds},
		"Low after High":              {hand(func(h *api.Hand) { h.Years.Low = -199 }), api.ErrSequence},
		"no shape":                    {hand(func(h *api.Hand) { h.Shapes = nil }), api.ErrFew},
		"nine shapes":                 {with(func(l *api.Line) { *l = greatest(); l.Hands[3].Shapes = append(l.Hands[3].Shapes, api.Shape{}) }), api.ErrMany},
		"letter before A":             {hand(func(h *api.Hand) { h.Shapes[0].Letter = '@' }), api.ErrSort},
		"letter after Z":              {hand(func(h *api.Hand) { h.Shapes[2].Letter = '[' }), api.ErrSort},
		"small letter":                {hand(func(h *api.Hand) { h.Shapes[2].Letter = 't' }), api.ErrSort},
		"no strokes":                  {hand(func(h *api.Hand) { h.Shapes[0].Strokes = 0 }), api.ErrBounds},
		"an eleventh stroke":          {hand(func(h *api.Hand) { h.Shapes[0].Strokes = 1024 }), api.ErrBounds},
		"a letter twice":              {hand(func(h *api.Hand) { h.Shapes[1].Letter = 'A' }), api.ErrSequence},
		"a letter too late":           {hand(func(h *api.Hand) { h.Shapes[1], h.Shapes[2] = h.Shapes[2], h.Shapes[1] }), api.ErrSequence},
		"Worn below":                  {with(func(l *api.Line) { l.Worn = -1 }), api.ErrBounds},
		"Worn above":                  {with(func(l *api.Line) { l.Worn = 11 }), api.ErrBounds},
		"Scratched below":             {with(func(l *api.Line) { l.Scratched = -1 }), api.ErrBounds},
		"Scratched above":             {with(func(l *api.Line) { l.Scratched = 11 }), api.ErrBounds},
		"Total below":                 {with(func(l *api.Line) { l.Total = -1 }), api.ErrBounds},
		"Total above":                 {with(func(l *api.Line) { l.Total = 41 }), api.ErrBounds},
		"no square":                   {with(func(l *api.Line) { l.Squares = [][]api.Light{} }), api.ErrFew},
		"nine squares":                {with(func(l *api.Line) { l.Squares = make([][]api.Light, 9) }), api.ErrMany},
		"five lights":                 {lit(2, [2]int{}, [2]int{}, [2]int{}, [2]int{}, [2]int{}), api.ErrMany},
		"Shows below":                 {lit(2, [2]int{-1, 0}), api.ErrBounds},
		"Shows above":                 {lit(2, [2]int{1024, 0}), api.ErrBounds},
		"Seen below":                  {lit(2, [2]int{15, -1}), api.ErrBounds},
		"Seen above":                  {lit(2, [2]int{15, 1024}), api.ErrBounds},
		"seen, but not shown":         {lit(2, [2]int{3, 4}), api.ErrShape},
		"seen, but not shown, later":  {lit(2, [2]int{3, 1}, [2]int{8, 9}), api.ErrShape},
		"hands before marks":          {with(func(l *api.Line) { l.Hands, l.Worn, l.Squares = nil, 11, nil }), api.ErrFew},
		"many hands before one":       {with(func(l *api.Line) { l.Hands = make([]api.Hand, 5) }), api.ErrMany},
		"bounds of High before order": {hand(func(h *api.Hand) { h.Years = api.Span{Low: 1, High: -3001} }), api.ErrBounds},
		"years before shapes":         {hand(func(h *api.Hand) { h.Years.Low, h.Shapes = -199, nil }), api.ErrSequence},
		"first hand before second":    {with(func(l *api.Line) { l.Hands[0].Shapes[2].Letter = 'a'; l.Hands[1].Years.Low = -3001 }), api.ErrSort},
		"many shapes before one":      {hand(func(h *api.Hand) { h.Shapes = make([]api.Shape, 9) }), api.ErrMany},
		"sort before strokes":         {hand(func(h *api.Hand) { h.Shapes[1] = api.Shape{Letter: 'a'} }), api.ErrSort},
		"strokes before order":        {hand(func(h *api.Hand) { h.Shapes[1] = api.Shape{Letter: 'A'} }), api.ErrBounds},
		"order before next shape":     {hand(func(h *api.Hand) { h.Shapes[1].Letter = 'A'; h.Shapes[2].Letter = 'a' }), api.ErrSequence},
		"shapes before marks":         {with(func(l *api.Line) { l.Hands[1].Shapes[1].Letter = 'A'; l.Total = 41 }), api.ErrSequence},
		"marks before squares":        {with(func(l *api.Line) { l.Total, l.Squares = 41, nil }), api.ErrBounds},
		"lights before one":           {lit(2, [2]int{3, 4}, [2]int{}, [2]int{}, [2]int{}, [2]int{}), api.ErrMany},
		"bounds of Seen before shape": {lit(2, [2]int{1, 1024}), api.ErrBounds},
		"first light before second":   {lit(2, [2]int{3, 4}, [2]int{1024, 0}), api.ErrShape},
		"first square before second":  {with(func(l *api.Line) { l.Squares[0][0].Seen = 16; l.Squares[1] = make([]api.Light, 5) }), api.ErrShape},
		"error before clash":          {with(func(l *api.Line) { l.Squares[0][0].Seen = 0; l.Squares[2][0].Seen = 4 }), api.ErrShape},
		"a number far above":          {with(func(l *api.Line) { l.Worn = math.MaxInt }), api.ErrBounds},
	} {
		errors, left := errorsOf(c.l)
		for i, e := range errors {
			if e != c.want {
				t.Error(name, i, e, c.want)
			}
		}
		if left {
			t.Error(name, "some result is no zero value")
		}
	}
	for i, l := range []api.Line{example(), greatest(), smallest(), lit(0), with(func(l *api.Line) { l.Worn, l.Scratched, l.Total = 10, 10, 40 })} {
		if errors, _ := errorsOf(l); slices.Max(errors) != api.OK {
			t.Error(i, errors)
		}
	}
}

// alike is a line with a hand in which two letters have the same strokes, and one with other letters.
func alike(lights ...api.Light) api.Line {
	return api.Line{Hands: []api.Hand{{Shapes: []api.Shape{{Letter: 'O', Strokes: 6}, {Letter: 'Q', Strokes: 6}, {Letter: 'T', Strokes: 9}}}, {Years: api.Span{Low: 5, High: 9}, Shapes: []api.Shape{{Letter: 'I', Strokes: 8}}}}, Squares: [][]api.Light{lights}}
}

func TestFitsP1_1(t *testing.T) {
	early := api.Span{Low: -400, High: -300}
	late := api.Span{Low: -320, High: -200}
	both := api.Span{Low: -400, High: -200}
	for name, c := range map[string]struct {
		l       api.Line
		hands   []int
		letters []string
		years   api.Span
		print   string
		marks   int
	}{
		"L":                              {example(), []int{0, 1}, []string{"A", "AL", "T"}, both, "A{AL}T", 0},
		"L with Total 0":                 {with(func(l *api.Line) { l.Total = 0 }), []int{0}, []string{"A", "L", "T"}, early, "ALT", 0},
		"L with 15/15 in the square 1":   {lit(1, [2]int{15, 15}), []int{1}, []string{"A", "A", "T"}, late, "AAT", 1},
		"L with 15/7 in the square 2":    {lit(2, [2]int{15, 7}), []int{0}, []string{"A", "AL", "A"}, early, "A{AL}A", 0},
		"L with 15/1 in the square 2":    {lit(2, [2]int{15, 1}), []int{0}, []string{"A", "L", "L"}, early, "ALL", 1},
		"no lights":                      {lit(0), []int{0, 1}, []string{"ALT", "AL", "T"}, both, "{ALT}{AL}T", 0},
		"a light that shows nothing":     {lit(0, [2]int{0, 0}), []int{0, 1}, []string{"ALT", "AL", "T"}, both, "{ALT}{AL}T", 0},
		"two lights, each of some":       {lit(0, [2]int{3, 3}, [2]int{12, 4}), []int{0, 1}, []string{"A", "AL", "T"}, both, "A{AL}T", 0},
		"the same strokes":               {alike(api.Light{Shows: 15, Seen: 6}), []int{0}, []string{"OQ"}, api.Span{}, "{OQ}", 0},
		"the same strokes, worn":         {alike(), []int{0, 1}, []string{"IOQT"}, api.Span{Low: 0, High: 9}, "-", 0},
		"Total less than a square's":     {api.Line{Hands: alike().Hands, Worn: 2, Scratched: 2, Total: 1, Squares: [][]api.Light{{{Shows: 15, Seen: 8}}}}, []int{0, 1}, []string{"IT"}, api.Span{Low: 0, High: 9}, "{IT}", 0},
		"Total 0 with Worn 2":            {api.Line{Hands: alike().Hands, Worn: 2, Squares: [][]api.Light{{{Shows: 15, Seen: 8}}}}, []int{1}, []string{"I"}, api.Span{Low: 5, High: 9}, "I", 0},
		"Worn less than Total":           {api.Line{Hands: alike().Hands[:1], Worn: 1, Total: 2, Squares: [][]api.Light{{{Shows: 15, Seen: 4}}}}, []int{0}, []string{"OQ"}, api.Span{}, "{OQ}", 1},
		"Scratched less than Total":      {api.Line{Hands: alike().Hands[:1], Scratched: 1, Total: 2, Squares: [][]api.Light{{{Shows: 15, Seen: 11}}}}, []int{0}, []string{"T"}, api.Span{}, "T", 1},
		"marks of several squares":       {api.Line{Hands: alike().Hands[:1], Worn: 1, Total: 2, Squares: [][]api.Light{{{Shows: 15, Seen: 4}}, {{Shows: 15, Seen: 1}}}}, []int{0}, []string{"OQ", "T"}, api.Span{}, "{OQ}T", 2},
		"the tenth stroke is worn":       {api.Line{Hands: []api.Hand{{Shapes: []api.Shape{{Letter: 'A', Strokes: 513}, {Letter: 'Z', Strokes: 1023}}}}, Worn: 1, Total: 1, Squares: [][]api.Light{{{Shows: 1023, Seen: 1}}}}, []int{0}, []string{"A"}, api.Span{}, "A", 1},
		"all that may be":                {greatest(), []int{0, 1, 2, 3}, slices.Repeat([]string{"STUVWXYZ"}, 8), api.Span{Low: 3000, High: 3000}, "--------", 0},
		"as little as may be":            {smallest(), []int{0}, []string{"A"}, api.Span{Low: -3000, High: -3000}, "A", 0},
		"three letters":                  {api.Line{Hands: alike().Hands[:1], Squares: [][]api.Light{nil, {{Shows: 1, Seen: 1}}}}, []int{0}, []string{"OQT", "T"}, api.Span{}, "{OQT}T", 0},
		"a hand lies within the other's": {with(func(l *api.Line) { l.Hands[1].Years = api.Span{Low: -350, High: -320} }), []int{0, 1}, []string{"A", "AL", "T"}, early, "A{AL}T", 0},
	} {
		hands, e1 := Hands(c.l)
		letters, e2 := Letters(c.l)
		years, e3 := Years(c.l)
		print, e4 := Print(c.l)
		marks, e5 := Marks(c.l)
		if !slices.Equal(hands, c.hands) || !slices.Equal(letters, c.letters) || years != c.years || print != c.print || marks != c.marks {
			t.Error(name, hands, letters, years, print, marks)
		}
		if max(e1, e2, e3, e4, e5) != api.OK {
			t.Error(name, e1, e2, e3, e4, e5)
		}
	}
}

func TestClashP1_1(t *testing.T) {
	for name, c := range map[string]struct {
		l     api.Line
		marks int
		e     api.Errno
	}{
		"L with 15/0 in the square 2":      {lit(2, [2]int{15, 0}), 0, api.ErrClash},
		"L with 15/7, 4/0 in the square 0": {lit(0, [2]int{15, 7}, [2]int{4, 0}), 0, api.ErrClash},
		"lights that contradict, all worn": {with(func(l *api.Line) {
			l.Worn, l.Scratched, l.Total, l.Squares[0] = 10, 10, 40, []api.Light{{Shows: 1, Seen: 1}, {Shows: 1}}
		}), 0, api.ErrClash},
		"no letter is scratched": {lit(0, [2]int{15, 9}), 0, api.ErrClash},
		"Total is too small": {with(func(l *api.Line) {
			l.Squares[1], l.Squares[2] = []api.Light{{Shows: 15, Seen: 1}}, []api.Light{{Shows: 15, Seen: 8}}
		}), 2, api.OK},
		"more marks than Total ever is":      {with(func(l *api.Line) { worst(l) }), 72, api.OK},
		"as many marks as there are strokes": {with(func(l *api.Line) { worst(l); l.Hands[0].Shapes[0].Strokes = 1023 }), 80, api.OK},
		"one of all squares cannot be":       {with(func(l *api.Line) { worst(l); l.Squares[7] = []api.Light{{Shows: 1, Seen: 1}, {Shows: 1}} }), 0, api.ErrClash},
	} {
		if marks, e := Marks(c.l); marks != c.marks || e != c.e {
			t.Error(name, marks, e)
		}
		errors, _ := errorsOf(c.l)
		for i, e := range []api.Errno{errors[1], errors[2], errors[3], errors[4], errors[6]} {
			if e != api.ErrClash {
				t.Error(name, i, e)
			}
		}
		if errors[0] != api.OK || errors[7] != api.OK {
			t.Error(name, errors)
		}
	}
}

// worst makes a line of eight squares, in each of which all strokes of the only letter are worn.
func worst(l *api.Line) {
	*l = api.Line{Hands: []api.Hand{{Shapes: []api.Shape{{Letter: 'A', Strokes: 511}}}}, Worn: 10, Scratched: 10, Total: 40, Squares: make([][]api.Light, 8)}
	for s := range l.Squares {
		l.Squares[s] = []api.Light{{Shows: 1023}}
	}
}

func TestPrintP1_2(t *testing.T) {
	five := api.Line{Hands: []api.Hand{{Shapes: []api.Shape{{Letter: 'A', Strokes: 1}, {Letter: 'B', Strokes: 2}, {Letter: 'C', Strokes: 4}, {Letter: 'D', Strokes: 8}, {Letter: 'E', Strokes: 16}}}}}
	five.Squares = [][]api.Light{nil, {{Shows: 1}}, {{Shows: 3}}, {{Shows: 7}}, {{Shows: 15}}}
	if text, e := Print(five); text != "--{CDE}{DE}E" || e != api.OK {
		t.Error(text, e)
	}
}

func TestLookP1_3(t *testing.T) {
	for name, c := range map[string]struct {
		l            api.Line
		square, rest int
	}{
		"L":                        {example(), 1, 2},
		"L with Total 0":           {with(func(l *api.Line) { l.Total = 0 }), 0, 2},
		"the last square":          {lit(2), 2, 3},
		"one square":               {with(func(l *api.Line) { l.Squares = l.Squares[:1] }), 0, 0},
		"one square, many letters": {with(func(l *api.Line) { l.Squares = [][]api.Light{nil} }), 0, 0},
		"the first one of several": {with(func(l *api.Line) { l.Total, l.Squares = 0, make([][]api.Light, 3) }), 0, 6},
		"a letter leaves one hand": {with(func(l *api.Line) { l.Worn, l.Squares = 0, [][]api.Light{nil, {{Shows: 15, Seen: 7}}} }), 0, 1},
		"the greatest of its rests": {with(func(l *api.Line) {
			l.Squares = [][]api.Light{{{Shows: 15, Seen: 3}}, {{Shows: 15, Seen: 3}}, {{Shows: 3, Seen: 3}}}
		}), 0, 4},
		"all that may be": {greatest(), 0, 56},
	} {
		if square, rest, e := Look(c.l); square != c.square || rest != c.rest || e != api.OK {
			t.Error(name, square, rest, e)
		}
	}
}

// wild are numbers far outside all limits, and some within.
func wild(i int) int {
	return []int{math.MinInt, -1 << 32, -3001, -1, 0, 1, 7, 1023, 1024, math.MaxInt}[i%10]
}

func TestAnyArgumentsP1(t *testing.T) {
	for i := range 2000 {
		n := func(k int) int { return wild(i*31/(k+1) + k*7) }
		l := api.Line{Worn: n(1), Scratched: n(2), Total: n(3)}
		for h := range i % 6 {
			l.Hands = append(l.Hands, api.Hand{Years: api.Span{Low: n(h), High: n(h + 4)}, Shapes: []api.Shape{{Letter: byte(n(h + 5)), Strokes: n(h + 6)}}})
		}
		for s := range i % 11 {
			l.Squares = append(l.Squares, []api.Light{{Shows: n(s + 8), Seen: n(s + 9)}})
		}
		if errors, left := errorsOf(l); errors[0] != api.OK && left {
			t.Fatal(i, l, errors)
		}
	}
	bytes := []byte("hand -0123456789/ALTZ\n marks square finis\xff\x00")
	for i := range 4000 {
		text := []byte("hand -400 -300 A7 L3 T12\nmarks 1 0 1\nsquare 15/7\nfinis\n")
		text[i%len(text)] = bytes[i%len(bytes)]
		if l, _, e := Read(string(text)); e != api.OK && !reflect.DeepEqual(l, api.Line{}) {
			t.Fatal(i, string(text), l, e)
		}
	}
}

func TestArgumentsStayR4(t *testing.T) {
	for i, l := range append(smallLines(50), example(), greatest()) {
		before := cloned(l)
		errorsOf(l)
		if !reflect.DeepEqual(before, cloned(l)) {
			t.Fatal(i, before, l)
		}
	}
	hands, _ := Hands(example())
	letters, _ := Letters(example())
	hands[0], letters[0] = 9, "X"
	hands, _ = Hands(example())
	letters, _ = Letters(example())
	if hands[0] != 0 || letters[0] != "A" {
		t.Error(hands, letters)
	}
	empty := lit(1)
	none := lit(1)
	empty.Squares[1] = []api.Light{}
	a, _ := Write(empty)
	b, _ := Write(none)
	if x, _ := Print(empty); a != b || x != "A{ALT}T" {
		t.Error(a, b, x)
	}
}
