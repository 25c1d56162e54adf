package join

import (
	"math"
	"reflect"
	"runtime"
	"slices"
	"strings"
	"testing"

	"cippus/api"
)

// errorsOf returns what each function that takes a heap says is wrong, and whether any other result is not a zero value.
func errorsOf(h api.Heap, a, b, shift int, next []int) (list []api.Errno, left bool) {
	shifts, e1 := Joins(h, a, b)
	distance, thick, steps, e2 := Where(h, a, b, shift)
	witness, e3 := Why(h, a, b, shift)
	e4 := Plan(h, next)
	best, stones, e5 := Fewest(h)
	text, e6 := Write(h)
	left = shifts != nil || distance != api.Span{} || thick != api.Span{} || steps != nil || witness != api.Witness{} || best != nil || stones != 0 || text != ""
	return []api.Errno{e1, e2, e3, e4, e5, e6}, left
}

// oneError tests that all functions return the error of a heap, ahead of all others.
func oneError(t *testing.T, name string, h api.Heap, want api.Errno) {
	t.Helper()
	if e := Check(h); e != want {
		t.Error(name, e, want)
	}
	if want == api.OK {
		return
	}
	for _, a := range []int{0, 9, -1} {
		list, left := errorsOf(h, a, 0, math.MaxInt, make([]int, 9))
		if left || slices.ContainsFunc(list, func(e api.Errno) bool { return e != want }) {
			t.Error(name, list, left, want)
		}
	}
}

func TestHeapErrorsP4_1(t *testing.T) {
	for name, c := range map[string]struct {
		change func(h *api.Heap)
		want   api.Errno
	}{
		"nothing":                    {func(h *api.Heap) {}, api.OK},
		"Pitch 0":                    {func(h *api.Heap) { h.Pitch = 0 }, api.ErrBounds},
		"Pitch 1":                    {func(h *api.Heap) { h.Pitch = 1 }, api.OK},
		"Pitch 5":                    {func(h *api.Heap) { h.Pitch = 5 }, api.OK},
		"Pitch 6":                    {func(h *api.Heap) { h.Pitch = 6 }, api.ErrBounds},
		"the least Pitch":            {func(h *api.Heap) { h.Pitch = math.MinInt }, api.ErrBounds},
		"Loss -1":                    {func(h *api.Heap) { h.Loss = -1 }, api.ErrBounds},
		"Loss 0":                     {func(h *api.Heap) { h.Loss = 0 }, api.OK},
		"Loss 50":                    {func(h *api.Heap) { h.Loss = 50 }, api.OK},
		"Loss 51":                    {func(h *api.Heap) { h.Loss = 51 }, api.ErrBounds},
		"the greatest Loss":          {func(h *api.Heap) { h.Loss = math.MaxInt }, api.ErrBounds},
		"Least 0":                    {func(h *api.Heap) { h.Least = 0 }, api.ErrBounds},
		"Least 1":                    {func(h *api.Heap) { h.Least = 1 }, api.OK},
		"Least 6":                    {func(h *api.Heap) { h.Least = 6 }, api.OK},
		"Least 7":                    {func(h *api.Heap) { h.Least = 7 }, api.ErrBounds},
		"Pitch before few":           {func(h *api.Heap) { h.Pitch, h.Pieces = 0, nil }, api.ErrBounds},
		"Loss before few":            {func(h *api.Heap) { h.Loss, h.Pieces = -1, nil }, api.ErrBounds},
		"Least before many":          {func(h *api.Heap) { h.Least, h.Pieces = 0, make([]api.Piece, 6) }, api.ErrBounds},
		"no pieces":                  {func(h *api.Heap) { h.Pieces = nil }, api.ErrFew},
		"an empty list of pieces":    {func(h *api.Heap) { h.Pieces = []api.Piece{} }, api.ErrFew},
		"one piece":                  {func(h *api.Heap) { h.Pieces = h.Pieces[:1] }, api.OK},
		"five pieces":                {func(h *api.Heap) { h.Pieces = slices.Repeat(h.Pieces[:1], 5) }, api.OK},
		"six pieces":                 {func(h *api.Heap) { h.Pieces = slices.Repeat(h.Pieces[:1], 6) }, api.ErrMany},
		"many before bounds":         {func(h *api.Heap) { h.Pieces = make([]api.Piece, 6) }, api.ErrMany},
		"an error of the first one":  {func(h *api.Heap) { h.Pieces[0].Ends[1], h.Pieces[1].Thick = "x", span(0, 0) }, api.ErrShape},
		"an error of the second one": {func(h *api.Heap) { h.Pieces[1].Ends[1] = "x" }, api.ErrShape},
	} {
		oneError(t, name, with(c.change), c.want)
	}
}

func TestPieceErrorsP4_1(t *testing.T) {
	for name, c := range map[string]struct {
		change func(p *api.Piece)
		want   api.Errno
	}{
		"Thick from 0":              {func(p *api.Piece) { p.Thick = span(0, 45) }, api.ErrBounds},
		"Thick from 1":              {func(p *api.Piece) { p.Thick = span(1, 45) }, api.OK},
		"Thick to 1000":             {func(p *api.Piece) { p.Thick = span(1000, 1000) }, api.OK},
		"Thick to 1001":             {func(p *api.Piece) { p.Thick = span(40, 1001) }, api.ErrBounds},
		"Thick backwards":           {func(p *api.Piece) { p.Thick = span(45, 44) }, api.ErrSequence},
		"Thick backwards, too far":  {func(p *api.Piece) { p.Thick = span(45, 0) }, api.ErrBounds},
		"Thick backwards, too much": {func(p *api.Piece) { p.Thick = span(1001, 45) }, api.ErrBounds},
		"all numbers":               {func(p *api.Piece) { p.Thick = span(math.MinInt, math.MaxInt) }, api.ErrBounds},
		"Thick before Base":         {func(p *api.Piece) { p.Thick, p.Base = span(45, 44), span(0, 13) }, api.ErrSequence},
		"Base from -1":              {func(p *api.Piece) { p.Base = span(-1, 1) }, api.ErrBounds},
		"Base to 12":                {func(p *api.Piece) { p.Base = span(0, 12) }, api.OK},
		"Base to 13":                {func(p *api.Piece) { p.Base = span(0, 13) }, api.ErrBounds},
		"Base backwards":            {func(p *api.Piece) { p.Base = span(2, 1) }, api.ErrSequence},
		"Base before Left":          {func(p *api.Piece) { p.Base, p.Left = span(2, 1), nil }, api.ErrSequence},
		"no Left":                   {func(p *api.Piece) { p.Left = nil }, api.ErrFew},
		"neither Left nor Right":    {func(p *api.Piece) { p.Left, p.Right = nil, []api.Span{} }, api.ErrFew},
		"one strip":                 {func(p *api.Piece) { p.Left, p.Right = p.Left[:1], p.Right[:1] }, api.OK},
		"six strips":                {func(p *api.Piece) { p.Left, p.Right = slices.Repeat(p.Left, 2), slices.Repeat(p.Right, 2) }, api.OK},
		"seven strips":              {func(p *api.Piece) { p.Left, p.Right = make([]api.Span, 7), make([]api.Span, 7) }, api.ErrMany},
		"many before shape":         {func(p *api.Piece) { p.Left = make([]api.Span, 7) }, api.ErrMany},
		"no Right":                  {func(p *api.Piece) { p.Right = nil }, api.ErrShape},
		"one Right less":            {func(p *api.Piece) { p.Right = p.Right[:2] }, api.ErrShape},
		"one Right more":            {func(p *api.Piece) { p.Right = append(p.Right, p.Right[0]) }, api.ErrShape},
		"shape before Left":         {func(p *api.Piece) { p.Right, p.Left[0] = nil, span(2, 1) }, api.ErrShape},
		"Left from -1":              {func(p *api.Piece) { p.Left[2] = span(-1, 1) }, api.ErrBounds},
		"Left to 200":               {func(p *api.Piece) { p.Left[2] = span(0, 200) }, api.OK},
		"Left to 201":               {func(p *api.Piece) { p.Left[2] = span(0, 201) }, api.ErrBounds},
		"Left backwards":            {func(p *api.Piece) { p.Left[0] = span(2, 1) }, api.ErrSequence},
		"Left one by one":           {func(p *api.Piece) { p.Left[0], p.Left[1] = span(2, 1), span(0, 201) }, api.ErrSequence},
		"Left before Right":         {func(p *api.Piece) { p.Left[2], p.Right[0] = span(2, 1), span(0, 201) }, api.ErrSequence},
		"Right from -1":             {func(p *api.Piece) { p.Right[0] = span(-1, 2) }, api.ErrBounds},
		"Right to 200":              {func(p *api.Piece) { p.Right[2] = span(200, 200) }, api.OK},
		"Right to 201":              {func(p *api.Piece) { p.Right[2] = span(0, 201) }, api.ErrBounds},
		"Right backwards":           {func(p *api.Piece) { p.Right[2] = span(2, 1) }, api.ErrSequence},
		"Right one by one":          {func(p *api.Piece) { p.Right[0], p.Right[1] = span(0, 201), span(2, 1) }, api.ErrBounds},
		"Right that ends at Left":   {func(p *api.Piece) { p.Left[1], p.Right[1] = span(50, 60), span(1, 2) }, api.OK},
		"Right before lines":        {func(p *api.Piece) { p.Right[1], p.Begins = span(0, 201), make([]string, 5) }, api.ErrBounds},
		"no lines":                  {func(p *api.Piece) { p.Begins, p.Ends = nil, []string{} }, api.OK},
		"four lines":                {func(p *api.Piece) { p.Begins, p.Ends = make([]string, 4), make([]string, 4) }, api.OK},
		"five lines":                {func(p *api.Piece) { p.Begins, p.Ends = make([]string, 5), make([]string, 5) }, api.ErrMany},
		"many lines before shape":   {func(p *api.Piece) { p.Begins, p.Ends = []string{"x", "", "", "", ""}, nil }, api.ErrMany},
		"no Ends":                   {func(p *api.Piece) { p.Ends = nil }, api.ErrShape},
		"no Begins":                 {func(p *api.Piece) { p.Begins = nil }, api.ErrShape},
		"one of the Ends more":      {func(p *api.Piece) { p.Ends = make([]string, 5) }, api.ErrShape},
		"all letters":               {func(p *api.Piece) { p.Begins[1] = "ABCDEFGHIJKLMNOPQRSTUVWXYZ" }, api.OK},
		"a letter twice":            {func(p *api.Piece) { p.Begins[1] = "NN" }, api.ErrShape},
		"letters that descend":      {func(p *api.Piece) { p.Begins[0] = "MA" }, api.ErrShape},
		"a small letter":            {func(p *api.Piece) { p.Begins[0] = "m" }, api.ErrShape},
		"a minus sign":              {func(p *api.Piece) { p.Begins[0] = "-" }, api.ErrShape},
		"a letter and more":         {func(p *api.Piece) { p.Begins[0] = "A\xff" }, api.ErrShape},
		"another letter":            {func(p *api.Piece) { p.Ends[0] = "\u0410" }, api.ErrShape},
		"Ends that descend":         {func(p *api.Piece) { p.Ends[1] = "ZA" }, api.ErrShape},
		"a blank in Ends":           {func(p *api.Piece) { p.Ends[1] = "A Z" }, api.ErrShape},
	} {
		for i := range 2 {
			oneError(t, name, with(func(h *api.Heap) { c.change(&h.Pieces[i]) }), c.want)
		}
	}
}

func TestPieceNumbersP4_1(t *testing.T) {
	for _, c := range []struct {
		a, b int
		want api.Errno
	}{{0, 2, api.ErrAbsent}, {2, 0, api.ErrAbsent}, {2, 2, api.ErrAbsent}, {-1, 0, api.ErrAbsent}, {0, -1, api.ErrAbsent}, {-1, -1, api.ErrAbsent}, {math.MinInt, 1, api.ErrAbsent}, {1, math.MaxInt, api.ErrAbsent}, {0, 0, api.ErrTwice}, {1, 1, api.ErrTwice}} {
		list, e1 := Joins(example(), c.a, c.b)
		distance, thick, steps, e2 := Where(example(), c.a, c.b, 0)
		witness, e3 := Why(example(), c.a, c.b, 0)
		if e1 != c.want || e2 != c.want || e3 != c.want || list != nil || distance != span(0, 0) || thick != span(0, 0) || steps != nil || witness != (api.Witness{}) {
			t.Error(c, list, e1, distance, thick, steps, e2, witness, e3)
		}
	}
}

// joinsCase is which shifts there are between two pieces, and the other way round.
type joinsCase struct {
	h            api.Heap
	there, round []int
}

func testJoins(t *testing.T, cases map[string]joinsCase) {
	t.Helper()
	for name, c := range cases {
		there, e := Joins(c.h, 0, 1)
		round, f := Joins(c.h, 1, 0)
		if e != api.OK || f != api.OK || !slices.Equal(there, c.there) || !slices.Equal(round, c.round) {
			t.Error(name, there, e, round, f)
		}
	}
}

func TestJoinsP4_1(t *testing.T) {
	loss := func(loss, least int) api.Heap {
		return with(func(h *api.Heap) { h.Loss, h.Least = loss, least })
	}
	lost := func(loss int, left ...int) api.Heap {
		h := heapOf(1, 1, straight(len(left), span(0, 12)), straight(len(left), span(0, 12)))
		h.Loss, h.Least, h.Pieces[1].Left, h.Pieces[1].Right = loss, len(left), exact(left...), slices.Repeat(exact(200), len(left))
		return h
	}
	testJoins(t, map[string]joinsCase{
		"H":                            {example(), []int{0}, nil},
		"H with the Loss 0":            {loss(0, 2), []int{0}, nil},
		"H with the Loss 2":            {loss(2, 2), []int{0}, nil},
		"H with the Loss 5":            {loss(5, 2), []int{0}, nil},
		"H with the Loss 6":            {loss(6, 2), []int{-1, 0}, nil},
		"H with the Loss 50":           {loss(50, 1), []int{-1, 0}, nil},
		"H with three strips":          {loss(50, 3), []int{0}, nil},
		"H with four":                  {loss(50, 4), nil, nil},
		"the thickness is reached":     {with(func(h *api.Heap) { h.Pieces[1].Thick = span(45, 50) }), []int{0}, nil},
		"and not reached":              {with(func(h *api.Heap) { h.Pieces[1].Thick = span(46, 50) }), nil, nil},
		"the thickness below":          {with(func(h *api.Heap) { h.Pieces[1].Thick = span(1, 40) }), []int{0}, nil},
		"and not reached from below":   {with(func(h *api.Heap) { h.Pieces[1].Thick = span(1, 39) }), nil, nil},
		"Loss 0, breaks alike":         {lost(0, 7, 7), []int{0}, []int{0}},
		"Loss 0, breaks not alike":     {lost(0, 7, 8), nil, []int{0}},
		"Loss 49, that is just enough": {lost(49, 7, 56), []int{0}, []int{0}},
		"Loss 49, that is not enough":  {lost(49, 7, 57), nil, []int{0}},
		"Loss 50, that is just enough": {lost(50, 57, 7), []int{0}, []int{0}},
		"Loss 50, that is not enough":  {lost(50, 58, 7), nil, []int{0}},
	})
}

// TestStripsP4_1 has straight pieces of other heights, whose strips alone say how they may be joined.
func TestStripsP4_1(t *testing.T) {
	free := span(0, 12)
	testJoins(t, map[string]joinsCase{
		"one strip each":        {heapOf(1, 1, straight(1, free), straight(1, free)), []int{0}, []int{0}},
		"two of one":            {heapOf(1, 2, straight(1, free), straight(1, free)), nil, nil},
		"six each, one":         {heapOf(1, 1, straight(6, free), straight(6, free)), []int{-5, -4, -3, -2, -1, 0, 1, 2, 3, 4, 5}, []int{-5, -4, -3, -2, -1, 0, 1, 2, 3, 4, 5}},
		"six each, five":        {heapOf(1, 5, straight(6, free), straight(6, free)), []int{-1, 0, 1}, []int{-1, 0, 1}},
		"six each, six":         {heapOf(1, 6, straight(6, free), straight(6, free)), []int{0}, []int{0}},
		"six and five, six":     {heapOf(1, 6, straight(6, free), straight(5, free)), nil, nil},
		"six and two, one":      {heapOf(1, 1, straight(6, free), straight(2, free)), []int{-1, 0, 1, 2, 3, 4, 5}, []int{-5, -4, -3, -2, -1, 0, 1}},
		"six and two, two":      {heapOf(1, 2, straight(6, free), straight(2, free)), []int{0, 1, 2, 3, 4}, []int{-4, -3, -2, -1, 0}},
		"six and two, three":    {heapOf(1, 3, straight(6, free), straight(2, free)), nil, nil},
		"Pitch 5, lines fit 0":  {heapOf(5, 1, straight(6, span(2, 2)), straight(6, span(2, 2))), []int{-5, 0, 5}, []int{-5, 0, 5}},
		"Pitch 5, lines fit -1": {heapOf(5, 1, straight(6, span(2, 2)), straight(6, span(3, 3))), []int{-1, 4}, []int{-4, 1}},
		"Pitch 5, below both":   {heapOf(5, 1, straight(6, span(12, 12)), straight(6, span(6, 6))), []int{-4, 1}, []int{-1, 4}},
		"Pitch 5, two strips":   {heapOf(5, 1, straight(6, span(12, 12)), straight(6, span(6, 7))), []int{-5, -4, 0, 1, 5}, []int{-5, -1, 0, 4, 5}},
		"Pitch 3":               {heapOf(3, 1, straight(3, span(0, 0)), straight(3, span(1, 1))), []int{-1, 2}, []int{-2, 1}},
		"Pitch 2, and half":     {heapOf(2, 1, straight(2, span(0, 0)), straight(2, span(1, 1))), []int{-1, 1}, []int{-1, 1}},
	})
}

// TestLettersP4_1 has pieces of one strip: the halves of their lines alone say whether they may be joined.
func TestLettersP4_1(t *testing.T) {
	one := func(begins ...string) api.Piece { return lettered(span(0, 0), begins, make([]string, len(begins))) }
	end := func(base int, ends ...string) api.Piece {
		return lettered(span(base, base), slices.Repeat([]string{"Q"}, len(ends)), ends)
	}
	yes, no := []int{0}, []int(nil)
	for name, c := range map[string]joinsCase{
		"the same letter":                   {h: heapOf(2, 1, end(0, "A"), one("A")), there: yes},
		"other letters":                     {h: heapOf(2, 1, end(0, "A"), one("B")), there: no},
		"one in common":                     {h: heapOf(2, 1, end(0, "ABM"), one("MNZ")), there: yes},
		"Z in common":                       {h: heapOf(2, 1, end(0, "YZ"), one("XZ")), there: yes},
		"none in common":                    {h: heapOf(2, 1, end(0, "ACE"), one("BDF")), there: no},
		"both empty":                        {h: heapOf(2, 1, end(0, ""), one("")), there: yes},
		"one empty":                         {h: heapOf(2, 1, end(0, ""), one("A")), there: no},
		"the other one empty":               {h: heapOf(2, 1, end(0, "A"), one("")), there: no},
		"no line":                           {h: heapOf(2, 1, end(0), one("A")), there: yes},
		"no other line":                     {h: heapOf(2, 1, end(0, "A"), one()), there: yes},
		"no lines":                          {h: heapOf(2, 1, end(0), one()), there: yes},
		"one of two":                        {h: heapOf(2, 1, end(0, "A", "A"), one("A", "B")), there: no},
		"two of two":                        {h: heapOf(2, 1, end(0, "A", "B"), one("A", "B")), there: yes},
		"one line more":                     {h: heapOf(2, 1, end(0, "A", "B"), one("A")), there: yes},
		"one other line more":               {h: heapOf(2, 1, end(0, "A"), one("A", "B")), there: yes},
		"level with the second":             {h: heapOf(2, 1, end(2, "B"), one("A", "B")), there: yes},
		"level with the second, not so":     {h: heapOf(2, 1, end(2, "A"), one("A", "B")), there: no},
		"level with the fourth":             {h: heapOf(2, 1, end(6, "D"), one("A", "B", "C", "D")), there: yes},
		"level with the fourth, not so":     {h: heapOf(2, 1, end(6, "C"), one("A", "B", "C", "D")), there: no},
		"below all lines":                   {h: heapOf(2, 1, end(8, "X"), one("A", "B", "C", "D")), there: yes},
		"between lines":                     {h: heapOf(2, 1, end(7, "X"), one("A", "B", "C", "D")), there: no},
		"far below all strips":              {h: heapOf(5, 1, end(10, "C", "D"), one("A", "B", "C", "D")), there: yes},
		"far below all strips, not so":      {h: heapOf(5, 1, end(10, "C", "E"), one("A", "B", "C", "D")), there: no},
		"far below, beyond the last line":   {h: heapOf(5, 1, end(10, "C", "D", "E"), one("A", "B", "C", "D")), there: yes},
		"the Begins of the left one":        {h: heapOf(2, 1, lettered(span(0, 0), []string{"A"}, []string{"B"}), one("A")), there: no},
		"the Ends of the right one":         {h: heapOf(2, 1, end(0, "A"), lettered(span(0, 0), []string{"B"}, []string{"A"})), there: no},
		"one of two strips, the first one":  {h: heapOf(2, 1, end(2, "A"), lettered(span(0, 2), []string{"A", "B"}, []string{"", ""})), there: yes},
		"one of two strips, the second one": {h: heapOf(2, 1, end(2, "B"), lettered(span(0, 2), []string{"A", "B"}, []string{"", ""})), there: yes},
		"neither of two strips":             {h: heapOf(2, 1, end(2, "C"), lettered(span(0, 2), []string{"A", "B"}, []string{"", ""})), there: no},
	} {
		if list, e := Joins(c.h, 0, 1); e != api.OK || !slices.Equal(list, c.there) {
			t.Error(name, list, e)
		}
	}
}

// whereCase is what there is if the piece 1 is joined to the right of the piece 0.
type whereCase struct {
	h               api.Heap
	shift           int
	distance, thick api.Span
	steps           []int
}

func testWhere(t *testing.T, cases map[string]whereCase) {
	t.Helper()
	for name, c := range cases {
		want := api.OK
		if c.steps == nil {
			want = api.ErrClash
		}
		distance, thick, steps, e := Where(c.h, 0, 1, c.shift)
		if distance != c.distance || thick != c.thick || !slices.Equal(steps, c.steps) || e != want {
			t.Error(name, distance, thick, steps, e)
		}
		if e == api.ErrClash && steps != nil {
			t.Error(name, steps)
		}
	}
}

func TestWhereP4_2(t *testing.T) {
	loss := func(loss int) api.Heap { return with(func(h *api.Heap) { h.Loss = loss }) }
	reach := func(right, left api.Span, loss int) api.Heap {
		h := heapOf(1, 1, straight(1, span(0, 0)), straight(1, span(0, 0)))
		h.Loss, h.Pieces[0].Right[0], h.Pieces[1].Left[0] = loss, right, left
		return h
	}
	testWhere(t, map[string]whereCase{
		"H":                                {h: example(), distance: span(39, 44), thick: span(44, 45), steps: []int{0}},
		"H with the shift 1":               {h: example(), shift: 1},
		"H with the shift -1":              {h: example(), shift: -1},
		"H with the shift 3":               {h: loss(50), shift: 3},
		"H with the shift -3":              {h: loss(50), shift: -3},
		"the least shift":                  {h: loss(50), shift: math.MinInt},
		"nearly the least shift":           {h: loss(50), shift: math.MinInt + 2},
		"the greatest shift":               {h: loss(50), shift: math.MaxInt},
		"H with the Loss 0":                {h: loss(0), distance: span(39, 41), thick: span(44, 45), steps: []int{0}},
		"H with the Loss 50, the shift -1": {h: loss(50), shift: -1, distance: span(43, 87), thick: span(44, 45), steps: []int{0}},
		"one thickness":                    {h: with(func(h *api.Heap) { h.Pieces[0].Thick = span(50, 60) }), distance: span(39, 44), thick: span(50, 50), steps: []int{0}},
		"a thickness within":               {h: with(func(h *api.Heap) { h.Pieces[0].Thick = span(46, 48) }), distance: span(39, 44), thick: span(46, 48), steps: []int{0}},
		"one distance, at its low end":     {h: with(func(h *api.Heap) { h.Pieces[1].Left[2] = span(16, 17) }), distance: span(39, 40), thick: span(44, 45), steps: []int{0}},
		"just reached from above":          {h: with(func(h *api.Heap) { h.Pieces[1].Left[2] = span(17, 18) }), distance: span(39, 39), thick: span(44, 45), steps: []int{0}},
		"not reached from above":           {h: with(func(h *api.Heap) { h.Pieces[1].Left[2] = span(18, 19) })},
		"just reached from below":          {h: with(func(h *api.Heap) { h.Pieces[1].Left[2] = span(6, 7) }), distance: span(44, 44), thick: span(44, 45), steps: []int{0}},
		"not reached from below":           {h: with(func(h *api.Heap) { h.Pieces[1].Left[2] = span(5, 6) })},
		"a distance below 0":               {h: reach(span(3, 4), span(100, 110), 2), distance: span(-107, -94), thick: span(9, 9), steps: []int{0}},
		"all distances":                    {h: reach(span(0, 200), span(0, 200), 50), distance: span(-200, 250), thick: span(9, 9), steps: []int{0}},
		"the least distance":               {h: reach(span(0, 0), span(200, 200), 0), distance: span(-200, -200), thick: span(9, 9), steps: []int{0}},
		"the greatest distance":            {h: reach(span(200, 200), span(0, 0), 50), distance: span(200, 250), thick: span(9, 9), steps: []int{0}},
	})
}

func TestStepsP4_2(t *testing.T) {
	distance, thick := span(5, 5), span(9, 9)
	lines := func(pitch int, a, b api.Span) api.Heap { return heapOf(pitch, 1, straight(6, a), straight(6, b)) }
	halves := func(base api.Span, begins ...string) api.Heap {
		return heapOf(2, 1, lettered(span(4, 4), []string{""}, []string{"A"}), lettered(base, begins, make([]string, len(begins))))
	}
	testWhere(t, map[string]whereCase{
		"H with all strips":              {h: with(func(h *api.Heap) { h.Pieces[1].Base = span(0, 12) }), distance: span(39, 44), thick: span(44, 45), steps: []int{-6, -5, -4, -3, -2, 0}},
		"no lines, one step":             {h: lines(1, span(0, 0), span(0, 0)), distance: distance, thick: thick, steps: []int{0}},
		"no lines, a step below 0":       {h: lines(3, span(0, 0), span(1, 1)), shift: 2, distance: distance, thick: thick, steps: []int{-1}},
		"no lines, the shift below 0":    {h: lines(3, span(0, 0), span(1, 1)), shift: -1, distance: distance, thick: thick, steps: []int{0}},
		"lines that are not level":       {h: lines(3, span(0, 0), span(1, 1)), shift: 1},
		"lines that are not level by -1": {h: lines(3, span(0, 0), span(1, 1))},
		"lines below the last strip":     {h: lines(4, span(12, 12), span(0, 0)), distance: distance, thick: thick, steps: []int{3}},
		"the other lines below":          {h: lines(4, span(0, 0), span(12, 12)), distance: distance, thick: thick, steps: []int{-3}},
		"the greatest step":              {h: lines(1, span(12, 12), span(0, 0)), shift: -5, distance: distance, thick: thick, steps: []int{17}},
		"the least step":                 {h: lines(1, span(0, 0), span(12, 12)), shift: 5, distance: distance, thick: thick, steps: []int{-17}},
		"several steps":                  {h: lines(5, span(0, 12), span(0, 12)), distance: distance, thick: thick, steps: []int{-2, -1, 0, 1, 2}},
		"several steps, and a shift":     {h: lines(5, span(0, 12), span(0, 12)), shift: 3, distance: distance, thick: thick, steps: []int{-3, -2, -1, 0, 1}},
		"steps of both signs":            {h: lines(2, span(3, 4), span(1, 6)), distance: distance, thick: thick, steps: []int{-1, 0, 1}},
		"all steps, by letters":          {h: halves(span(0, 4), "A", "A", "A"), distance: distance, thick: thick, steps: []int{0, 1, 2}},
		"the outer steps, by letters":    {h: halves(span(0, 4), "A", "B", "A"), distance: distance, thick: thick, steps: []int{0, 2}},
		"an inner step, by letters":      {h: halves(span(0, 4), "", "AB", "BC"), distance: distance, thick: thick, steps: []int{1}},
		"the last step, by letters":      {h: halves(span(0, 4), "X", "X", "A"), distance: distance, thick: thick, steps: []int{2}},
		"below all, by letters":          {h: halves(span(0, 6), "X", "X", "X"), distance: distance, thick: thick, steps: []int{-1}},
		"no step, by letters":            {h: halves(span(0, 4), "X", "X", "X")},
		"a strip that is not level":      {h: halves(span(1, 1), "A", "A", "A")},
	})
}

func testWhy(t *testing.T, name string, h api.Heap, a, shift, reason, first, second int) {
	t.Helper()
	want, e := api.Witness{Reason: reason, First: first, Second: second}, api.OK
	if reason == 0 {
		e = api.ErrNone
	}
	if w, f := Why(h, a, 1-a, shift); w != want || f != e {
		t.Error(name, w, f)
	}
}

func TestWhyP4_3(t *testing.T) {
	second := func(change func(p *api.Piece)) api.Heap {
		return with(func(h *api.Heap) { change(&h.Pieces[1]) })
	}
	testWhy(t, "no reason", example(), 0, 0, 0, 0, 0)
	testWhy(t, "few strips", example(), 0, 2, api.ByStrips, 0, 0)
	testWhy(t, "few strips above", example(), 0, -2, api.ByStrips, 0, 0)
	testWhy(t, "just enough strips", example(), 0, 1, api.ByBreak, 1, 2)
	testWhy(t, "just enough strips above", example(), 0, -1, api.ByBreak, 0, 1)
	for _, shift := range []int{3, -3, 99, -99, math.MaxInt, math.MinInt, math.MinInt + 1, math.MinInt + 2, math.MinInt + 3, math.MaxInt - 2} {
		testWhy(t, "no strips", example(), 0, shift, api.ByStrips, 0, 0)
		testWhy(t, "no strips, and too thick", second(func(p *api.Piece) { p.Thick = span(46, 50) }), 0, shift, api.ByThick, 0, 0)
	}
	testWhy(t, "too thick", second(func(p *api.Piece) { p.Thick = span(46, 50) }), 0, 0, api.ByThick, 0, 0)
	testWhy(t, "too thin", second(func(p *api.Piece) { p.Thick = span(39, 39) }), 0, 0, api.ByThick, 0, 0)
	testWhy(t, "the last two strips", second(func(p *api.Piece) { p.Left[2] = span(21, 21) }), 0, 0, api.ByBreak, 0, 2)
	testWhy(t, "break before lines", second(func(p *api.Piece) { p.Left[2], p.Base = span(21, 21), span(1, 1) }), 0, 0, api.ByBreak, 0, 2)
	testWhy(t, "never level", second(func(p *api.Piece) { p.Base = span(1, 1) }), 0, 0, api.ByLines, 0, 0)
	testWhy(t, "never level, before letters", second(func(p *api.Piece) { p.Base, p.Begins[0] = span(1, 1), "X" }), 0, 0, api.ByLines, 0, 0)
	testWhy(t, "no letter", second(func(p *api.Piece) { p.Begins[0] = "NO" }), 0, 0, api.ByLetters, 0, 0)
	testWhy(t, "no letter of both lines", second(func(p *api.Piece) { p.Begins[0], p.Begins[1] = "NO", "X" }), 0, 0, api.ByLetters, 0, 0)
	testWhy(t, "an empty half", second(func(p *api.Piece) { p.Begins[0] = "" }), 0, 0, api.ByLetters, 0, 0)
	testWhy(t, "another empty half", second(func(p *api.Piece) { p.Begins[1] = "N" }), 0, 0, api.ByLetters, 1, 1)
	testWhy(t, "round", example(), 1, 0, api.ByLetters, 0, 0)
	testWhy(t, "round, and shifted", example(), 1, -1, api.ByLetters, 0, 1)
}

// TestBreaksP4_3 has breaks of four strips that contradict each other, most of them in several pairs.
func TestBreaksP4_3(t *testing.T) {
	h := func(loss int, left ...int) api.Heap {
		h := heapOf(1, 2, straight(4, span(0, 0)), straight(4, span(0, 0)))
		h.Loss, h.Pieces[1].Left = loss, exact(left...)
		return h
	}
	for _, c := range []struct {
		h                            api.Heap
		shift, reason, first, second int
	}{
		{h(2, 4, 3, 4, 2), 0, 0, 0, 0},
		{h(2, 4, 3, 4, 1), 0, api.ByBreak, 0, 3},
		{h(2, 3, 4, 4, 1), 0, api.ByBreak, 1, 3},
		{h(2, 3, 3, 4, 1), 0, api.ByBreak, 2, 3},
		{h(2, 4, 1, 4, 1), 0, api.ByBreak, 0, 1},
		{h(2, 2, 1, 4, 1), 0, api.ByBreak, 1, 2},
		{h(2, 2, 4, 1, 2), 0, api.ByBreak, 1, 2},
		{h(2, 1, 3, 3, 4), 0, api.ByBreak, 0, 3},
		{h(2, 1, 3, 4, 4), 0, api.ByBreak, 0, 2},
		{h(0, 5, 5, 5, 5), 0, 0, 0, 0},
		{h(0, 5, 5, 5, 6), 0, api.ByBreak, 0, 3},
		{h(0, 6, 5, 5, 5), 0, api.ByBreak, 0, 1},
		{h(50, 0, 50, 25, 0), 0, 0, 0, 0},
		{h(50, 0, 51, 25, 0), 0, api.ByBreak, 0, 1},
		{h(50, 100, 50, 25, 0), 0, api.ByBreak, 0, 2},
		{h(2, 1, 1, 9, 9), 1, api.ByBreak, 1, 3},
		{h(2, 1, 1, 9, 9), 2, 0, 0, 0},
		{h(2, 1, 1, 9, 9), -1, api.ByBreak, 0, 1},
		{h(2, 1, 1, 9, 9), -2, 0, 0, 0},
		{h(2, 1, 1, 9, 9), 3, api.ByStrips, 0, 0},
		{h(2, 1, 1, 9, 9), -3, api.ByStrips, 0, 0},
	} {
		testWhy(t, "breaks", c.h, 0, c.shift, c.reason, c.first, c.second)
	}
	wide := h(0, 0, 0, 0, 0)
	wide.Pieces[1].Left = spans(0, 10, 0, 3, 2, 7, 8, 9)
	testWhy(t, "wide spans", wide, 0, 0, api.ByBreak, 1, 3)
	wide.Pieces[1].Left[3] = span(4, 9)
	testWhy(t, "wide spans, of which each two but one have a number in common", wide, 0, 0, api.ByBreak, 1, 3)
	wide.Pieces[1].Left[3] = span(3, 9)
	testWhy(t, "wide spans that have one in common", wide, 0, 0, 0, 0, 0)
	wide.Pieces[0].Right[3] = span(3, 5)
	testWhy(t, "wide spans on both sides, just wide enough", wide, 0, 0, 0, 0, 0)
	wide.Pieces[0].Right[3] = span(3, 4)
	testWhy(t, "wide spans on both sides", wide, 0, 0, api.ByBreak, 1, 3)
	wide.Pieces[0].Right[3] = span(12, 20)
	testWhy(t, "wide spans on both sides, just wide enough to the right", wide, 0, 0, 0, 0, 0)
	wide.Pieces[0].Right[3] = span(13, 20)
	testWhy(t, "wide spans on both sides, too far to the right for one strip", wide, 0, 0, api.ByBreak, 2, 3)
}

func TestLettersP4_3(t *testing.T) {
	h := func(a, b api.Span, ends, begins []string) api.Heap {
		return heapOf(2, 1, lettered(a, make([]string, len(ends)), ends), lettered(b, begins, make([]string, len(begins))))
	}
	for _, c := range []struct {
		h                     api.Heap
		reason, first, second int
	}{
		{h(span(0, 0), span(0, 0), []string{"A", "B"}, []string{"A", "C"}), api.ByLetters, 1, 1},
		{h(span(0, 0), span(0, 0), []string{"A", "B", "C"}, []string{"A", "C", "B"}), api.ByLetters, 1, 1},
		{h(span(4, 4), span(0, 0), []string{"A", "B"}, []string{"A", "B", "A", "C"}), api.ByLetters, 1, 3},
		{h(span(0, 0), span(4, 4), []string{"A", "B", "A", "C"}, []string{"A", "B"}), api.ByLetters, 3, 1},
		{h(span(0, 4), span(0, 0), []string{"X"}, []string{"A", "B", "C"}), api.ByLetters, 0, 0},
		{h(span(2, 4), span(0, 0), []string{"X"}, []string{"A", "B", "C"}), api.ByLetters, 0, 1},
		{h(span(0, 0), span(0, 4), []string{"A", "B", "C"}, []string{"X"}), api.ByLetters, 2, 0},
		{h(span(0, 0), span(0, 4), []string{"A", "B", "X"}, []string{"X"}), 0, 0, 0},
		{h(span(0, 0), span(0, 4), []string{"A", "X", "C"}, []string{"X"}), 0, 0, 0},
		{h(span(0, 0), span(0, 5), []string{"X", "B", "C"}, []string{"X"}), 0, 0, 0},
		{h(span(0, 0), span(0, 6), []string{"A", "B", "C"}, []string{"X"}), 0, 0, 0},
		{h(span(0, 4), span(0, 4), []string{"A", "B", ""}, []string{"Z", "X", "Y"}), api.ByLetters, 2, 0},
		{h(span(0, 4), span(0, 4), []string{"A", "B", ""}, []string{"", "X", "Y"}), 0, 0, 0},
	} {
		want, e := api.Witness{Reason: c.reason, First: c.first, Second: c.second}, api.OK
		if c.reason == 0 {
			e = api.ErrNone
		}
		if w, f := Why(c.h, 0, 1, 0); w != want || f != e {
			t.Error(c, w, f)
		}
	}
}

func TestPlanErrorsP4_4(t *testing.T) {
	two, four := example(), heapOf(1, 1, slices.Repeat([]api.Piece{straight(1, span(0, 0))}, 4)...)
	for _, c := range []struct {
		h    api.Heap
		next []int
		want api.Errno
	}{
		{two, nil, api.ErrShape}, {two, []int{}, api.ErrShape}, {two, []int{1}, api.ErrShape}, {two, []int{1, -1, -1}, api.ErrShape}, {two, []int{9, 9, 9}, api.ErrShape},
		{two, []int{2, -1}, api.ErrAbsent}, {two, []int{-2, -1}, api.ErrAbsent}, {two, []int{-1, 2}, api.ErrAbsent}, {two, []int{math.MinInt, 0}, api.ErrAbsent}, {two, []int{0, math.MaxInt}, api.ErrAbsent}, {two, []int{2, 2}, api.ErrAbsent},
		{two, []int{1, 1}, api.ErrTwice}, {two, []int{0, 0}, api.ErrTwice}, {two, []int{-1, -1}, api.OK},
		{four, []int{1, 1, 4, -1}, api.ErrTwice}, {four, []int{1, 4, 1, -1}, api.ErrAbsent}, {four, []int{0, 1, 1, 4}, api.ErrTwice}, {four, []int{0, 1, 4, 1}, api.ErrAbsent}, {four, []int{1, 0, 3, 3}, api.ErrTwice}, {four, []int{1, 0, 3, -2}, api.ErrAbsent},
		{two, []int{0, -1}, api.ErrSequence}, {two, []int{-1, 1}, api.ErrSequence}, {two, []int{1, 0}, api.ErrSequence}, {two, []int{0, 1}, api.ErrSequence},
		{four, []int{1, 2, 3, 0}, api.ErrSequence}, {four, []int{-1, 2, 3, 1}, api.ErrSequence}, {four, []int{3, 2, 1, -1}, api.ErrSequence}, {four, []int{1, -1, 2, -1}, api.ErrSequence}, {four, []int{-1, 0, 1, 3}, api.ErrSequence},
		{two, []int{-1, 0}, api.ErrClash}, {two, []int{1, -1}, api.OK},
		{four, []int{-1, -1, -1, -1}, api.OK}, {four, []int{1, 2, 3, -1}, api.OK}, {four, []int{-1, 0, 1, 2}, api.OK}, {four, []int{2, 3, 1, -1}, api.OK}, {four, []int{1, -1, 3, -1}, api.OK}, {four, []int{3, -1, -1, 1}, api.OK},
	} {
		if e := Plan(c.h, c.next); e != c.want {
			t.Error(c.next, e, c.want)
		}
	}
	if e := Plan(with(func(h *api.Heap) { h.Pieces[1].Thick = span(1, 1) }), []int{1, 0}); e != api.ErrSequence {
		t.Error(e)
	}
}

// thicknesses are three pieces, of which the middle one may be as thick as each of the others.
func thicknesses() api.Heap {
	h := heapOf(1, 1, slices.Repeat([]api.Piece{straight(1, span(0, 0))}, 3)...)
	h.Pieces[0].Thick, h.Pieces[1].Thick, h.Pieces[2].Thick = span(5, 6), span(6, 8), span(8, 9)
	return h
}

// twoSides are three pieces, of which the middle one has its first line in one strip for the one on the left, and in another one for that on the right.
func twoSides() api.Heap {
	return heapOf(2, 1, straight(1, span(0, 0)), straight(1, span(0, 1)), straight(1, span(1, 1)))
}

// bothLetters are three pieces whose lines fit the middle one, if its first line stands in the strip 0 for the one on the left, and in the strip 2 for that on the right.
func bothLetters(ends ...string) api.Heap {
	return heapOf(2, 1, lettered(span(2, 2), []string{"X"}, []string{"A"}), lettered(span(0, 2), []string{"B", "A"}, ends), lettered(span(2, 2), []string{"A"}, []string{"Y"}))
}

func TestPlanP4_4(t *testing.T) {
	wider := thicknesses()
	wider.Pieces[0].Thick.High = 8
	level := twoSides()
	level.Pieces[2].Base = span(0, 1)
	shifted := heapOf(2, 1, straight(1, span(0, 0)), straight(2, span(0, 1)), straight(1, span(1, 1)))
	for _, c := range []struct {
		name string
		h    api.Heap
		want api.Errno
	}{{"thicknesses", thicknesses(), api.ErrClash}, {"one thickness", wider, api.OK}, {"two strips for one line", twoSides(), api.ErrClash}, {"one strip for it", level, api.OK}, {"a shift that helps", shifted, api.OK}, {"letters of two strips", bothLetters("A", ""), api.ErrClash}, {"letters of one strip", bothLetters("", "A"), api.OK}, {"letters of both strips", bothLetters("A", "A"), api.OK}} {
		if e := Plan(c.h, []int{1, 2, -1}); e != c.want {
			t.Error(c.name, e)
		}
		for _, next := range [][]int{{1, -1, -1}, {-1, 2, -1}, {-1, -1, -1}} {
			if e := Plan(c.h, next); e != api.OK {
				t.Error(c.name, next, e)
			}
		}
	}
	// Two stones have nothing in common, not even their thickness.
	apart := heapOf(1, 1, slices.Repeat([]api.Piece{straight(1, span(0, 0))}, 4)...)
	apart.Pieces[0].Thick, apart.Pieces[2].Thick = span(1, 1), span(1, 1)
	for _, c := range []struct {
		next []int
		want api.Errno
	}{{[]int{2, 3, -1, -1}, api.OK}, {[]int{-1, -1, 0, 1}, api.OK}, {[]int{2, 0, -1, -1}, api.ErrClash}, {[]int{-1, 2, -1, -1}, api.ErrClash}, {[]int{-1, -1, -1, 2}, api.ErrClash}} {
		if e := Plan(apart, c.next); e != c.want {
			t.Error(c.next, e)
		}
	}
	// Five pieces, from the thickest to the thinnest: just neighbours may be as thick as each other, until the span of one is wide enough.
	five := heapOf(1, 1, slices.Repeat([]api.Piece{straight(1, span(0, 0))}, 5)...)
	for i := range five.Pieces {
		five.Pieces[i].Thick = span(4-i+1, 4-i+6)
	}
	if e := Plan(five, []int{1, 2, 3, 4, -1}); e != api.OK {
		t.Error(e)
	}
	five.Pieces[0].Thick = span(7, 10)
	if e := Plan(five, []int{1, 2, 3, 4, -1}); e != api.ErrClash {
		t.Error(e)
	}
	if e := Plan(five, []int{1, 2, 3, -1, -1}); e != api.OK {
		t.Error(e)
	}
}

func TestFewestP4_5(t *testing.T) {
	plain := func(pieces int) api.Heap {
		return heapOf(1, 1, slices.Repeat([]api.Piece{straight(1, span(0, 0))}, pieces)...)
	}
	apart := plain(5)
	for i := range apart.Pieces {
		apart.Pieces[i].Thick = span(10+i, 10+i)
	}
	twos := plain(5)
	for i := range twos.Pieces {
		twos.Pieces[i].Thick = span(1+i%2, 1+i%2)
	}
	for name, c := range map[string]struct {
		h      api.Heap
		next   []int
		stones int
	}{
		"H":                   {example(), []int{1, -1}, 1},
		"H with NO":           {with(func(h *api.Heap) { h.Pieces[1].Begins[0] = "NO" }), []int{-1, -1}, 2},
		"one piece":           {plain(1), []int{-1}, 1},
		"two pieces":          {plain(2), []int{-1, 0}, 1},
		"three pieces":        {plain(3), []int{-1, 0, 1}, 1},
		"five pieces":         {plain(5), []int{-1, 0, 1, 2, 3}, 1},
		"five apart":          {apart, []int{-1, -1, -1, -1, -1}, 5},
		"two stones":          {twos, []int{-1, -1, 0, 1, 2}, 2},
		"several plans":       {thicknesses(), []int{-1, -1, 1}, 2},
		"two sides":           {twoSides(), []int{-1, -1, 1}, 2},
		"letters of one side": {bothLetters("", "A"), []int{1, 2, -1}, 1},
		"letters of each":     {bothLetters("A", ""), []int{-1, 2, -1}, 2},
	} {
		next, stones, e := Fewest(c.h)
		if !slices.Equal(next, c.next) || stones != c.stones || e != api.OK {
			t.Error(name, next, stones, e)
		}
	}
}

// TestOtherPanics tests that the search hides nothing but its own end.
func TestOtherPanics(t *testing.T) {
	defer func() {
		if _, ok := recover().(runtime.Error); !ok {
			t.Error("it is hidden")
		}
	}()
	h := example()
	h.Pitch = 0
	fewest(h)
}

// wild are numbers far outside all limits, and some within.
func wild(i int) int {
	list := []int{0, 1, 2, 3, 5, 6, 7, 12, 13, 50, 51, 200, 201, 1000, -1, -2, math.MinInt, math.MinInt + 5, math.MaxInt, math.MaxInt - 5}
	return list[(i%len(list)+len(list))%len(list)]
}

func wildPiece(i int) api.Piece {
	p := api.Piece{Thick: span(wild(i/3), wild(i/3+i%3)), Base: span(wild(i), wild(i+i%2))}
	for k := range i % 8 {
		p.Left = append(p.Left, span(wild(i*k), wild(i*k+k%2)))
		p.Right = append(p.Right, span(wild(i+k), wild(i+k*k)))
	}
	for k := range i / 8 % 6 {
		p.Begins = append(p.Begins, []string{"", "A", "AB", "\xff", "BA", strings.Repeat("A", 1000)}[(i+k)%6])
		p.Ends = append(p.Ends, []string{"", "Z", "AZ", "A"}[(i+k)%4])
	}
	if i%17 == 0 {
		p.Right = nil
	}
	return p
}

func TestAnyArgumentsP1(t *testing.T) {
	for i := range 6000 {
		h := api.Heap{Pitch: wild(i), Loss: wild(i / 3), Least: wild(i / 7)}
		for k := range i % 7 {
			h.Pieces = append(h.Pieces, wildPiece(i+k))
		}
		if errors, left := errorsOf(h, i%5-1, i/5%5-1, wild(i/2), []int{wild(i), wild(i / 2)}); Check(h) != api.OK && left {
			t.Fatal(i, h, errors)
		}
	}
	for i := range 20000 {
		h := example()
		h.Pitch, h.Loss, h.Least = 1+i%5, i/5%51, 1+i/250%6
		h.Pieces[i%2].Base = span(i%13, 12)
		errorsOf(h, i/2%2, i/4%2, wild(i/8), []int{wild(i), wild(i / 20)})
	}
	bytes := []byte("heap 123:\npiecestripline-ABZ \xff\x00")
	text, _ := Write(example())
	for i := range 20000 {
		note := []byte(text)
		note[i*7%len(note)] = bytes[i%len(bytes)]
		note[i/7%len(note)] = bytes[i/5%len(bytes)]
		if h, line, e := Read(string(note[i%3:])); e != api.OK && !reflect.DeepEqual(h, api.Heap{}) || line != 0 && e != api.ErrShape {
			t.Fatal(i, string(note), h, line, e)
		}
	}
}

func TestArgumentsStayR4(t *testing.T) {
	for i, s := range smalls()[:200] {
		h, next := cloned(s.h), slices.Repeat([]int{-1}, len(s.h.Pieces))
		want := slices.Clone(next)
		errorsOf(s.h, 0, len(s.h.Pieces)-1, 0, next)
		if !reflect.DeepEqual(h, s.h) || !slices.Equal(next, want) {
			t.Fatal(i, h, s.h, next)
		}
	}
}

// TestResultsApartR4 changes what is read of a note, piece by piece, which must not change another piece.
func TestResultsApartR4(t *testing.T) {
	text, _ := Write(heapOf(1, 1, slices.Repeat([]api.Piece{example().Pieces[0]}, 4)...))
	h, _, _ := Read(text)
	want, _, _ := Read(text)
	for i, p := range h.Pieces {
		if !reflect.DeepEqual(p, want.Pieces[i]) {
			t.Fatal(i, p)
		}
		for _, side := range [][]api.Span{p.Left, p.Right} {
			_ = append(side, span(7, 7))
			clear(side)
		}
		for _, side := range [][]string{p.Begins, p.Ends} {
			_ = append(side, "X")
			clear(side)
		}
	}
	shifts, _ := Joins(heapOf(1, 1, straight(6, span(0, 12)), straight(6, span(0, 12))), 0, 1)
	clear(shifts)
	if again, _ := Joins(heapOf(1, 1, straight(6, span(0, 12)), straight(6, span(0, 12))), 0, 1); len(again) != 11 || again[0] != -5 {
		t.Error(again)
	}
}

func TestNilAsEmptyR4(t *testing.T) {
	a, b := heapOf(1, 1, straight(1, span(0, 0))), heapOf(1, 1, straight(1, span(0, 0)))
	b.Pieces[0].Begins, b.Pieces[0].Ends = []string{}, []string{}
	s, e := Write(a)
	if text, f := Write(b); text != s || e != f || e != api.OK {
		t.Error(s, text, e, f)
	}
	if e := Plan(example(), []int{}); e != api.ErrShape {
		t.Error(e)
	}
}
