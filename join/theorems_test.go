package join

import (
	"math/rand"
	"slices"
	"testing"

	"cippus/api"
)

// broken is a heap of the pieces of one stone, and how they truly were side by side.
type broken struct {
	h     api.Heap
	order []int // the pieces, from the left to the right
	joins []joint
}

// joint is how a piece truly was joined to the right of another one.
type joint struct{ shift, distance, thick, step int }

// shard is a piece of a stone: at which strip of the stone it begins, where its left bound is, and which line of the stone is its first one.
type shard struct{ top, bound, line int }

// stone is a stone that breaks: how thick it is, in which of its strips its first line stands, and which letter each of its lines has at each break; 0 if it has none.
type stone struct {
	thick, base int
	letters     [][60]byte
}

func newStone(r *rand.Rand, pieces int) stone {
	s := stone{thick: 20 + r.Intn(100), base: r.Intn(3)}
	for range pieces - 1 {
		var letters [60]byte
		for i := range letters {
			if r.Intn(3) > 0 {
				letters[i] = byte('A' + r.Intn(26))
			}
		}
		s.letters = append(s.letters, letters)
	}
	return s
}

// shards breaks a stone: of two pieces side by side, enough strips are.
func (s stone) shards(r *rand.Rand, h api.Heap, heights []int) []shard {
	var list []shard
	for i := range heights {
		top := 20
		if i > 0 {
			least, most := list[i-1].top+h.Least-heights[i], list[i-1].top+heights[i-1]-h.Least
			top = least + r.Intn(most-least+1)
		}
		line := 0
		for s.base+line*h.Pitch < top {
			line++
		}
		if r.Intn(3) == 0 && s.base+(line+1)*h.Pitch-top <= api.MaxBase {
			line++
		}
		list = append(list, shard{top, 60*i - r.Intn(20), line})
	}
	return list
}

// around returns a span with a number, within some others.
func around(r *rand.Rand, n, wide, low, high int) api.Span {
	return span(max(low, n-r.Intn(wide+1)), min(high, n+r.Intn(wide+1)))
}

// half returns letters of which a half may be; one of them it is.
func half(r *rand.Rand, letter byte) string {
	if letter == 0 {
		return ""
	}
	text := ""
	for c := byte('A'); c <= 'Z'; c++ {
		if c == letter || r.Intn(12) == 0 {
			text += string(rune(c))
		}
	}
	return text
}

// breakStone breaks a stone into pieces, and measures them more or less exactly.
func breakStone(r *rand.Rand, pieces int) broken {
	h := api.Heap{Pitch: 1 + r.Intn(5), Loss: []int{0, 1, 5, 50}[r.Intn(4)], Least: 1 + r.Intn(6), Pieces: make([]api.Piece, pieces)}
	s, wide := newStone(r, pieces), r.Intn(4)
	var heights []int
	for range pieces {
		heights = append(heights, h.Least+r.Intn(api.MaxStrips-h.Least+1))
	}
	shards := s.shards(r, h, heights)
	order := r.Perm(pieces)
	var joins []joint
	for i, shard := range shards {
		p := &h.Pieces[order[i]]
		p.Thick = around(r, s.thick, wide, 1, api.MaxThick)
		p.Base = around(r, s.base+shard.line*h.Pitch-shard.top, wide, 0, api.MaxBase)
		s.copyLines(r, p, i, shard.line)
		measure(r, p, i, shard, heights[i], h.Loss, wide)
		if i > 0 {
			a, b := shards[i-1], shards[i]
			joins = append(joins, joint{b.top - a.top, b.bound - a.bound, s.thick, a.line - b.line})
		}
	}
	return broken{h, order, joins}
}

// edge returns where a break of a stone is in one of its strips, and how much of the stone is lost there on its right.
func edge(at, strip, loss int) (int, int) {
	return 60*at + (strip*strip*7+at*5)%23, (strip*3 + at) % (loss + 1)
}

// measure says how far a piece reaches in each of its strips.
func measure(r *rand.Rand, p *api.Piece, i int, s shard, height, loss, wide int) {
	for k := range height {
		begin, lost := edge(i, s.top+k, loss)
		end, _ := edge(i+1, s.top+k, loss)
		p.Left = append(p.Left, around(r, begin+lost-s.bound, wide, 0, api.MaxReach))
		p.Right = append(p.Right, around(r, end-s.bound, wide, 0, api.MaxReach))
	}
}

// copyLines says which halves the lines of a piece have, from its first one on.
func (s stone) copyLines(r *rand.Rand, p *api.Piece, i, first int) {
	for line := range r.Intn(api.MaxLines + 1) {
		var begins, ends byte
		if i > 0 {
			begins = s.letters[i-1][first+line]
		}
		if i < len(s.letters) {
			ends = s.letters[i][first+line]
		}
		p.Begins, p.Ends = append(p.Begins, half(r, begins)), append(p.Ends, half(r, ends))
	}
}

func has(n int, s api.Span) bool { return s.Low <= n && n <= s.High }

func TestTrueP4_7(t *testing.T) {
	r := rand.New(rand.NewSource(7))
	shifted, below := 0, 0
	for i := range 3000 {
		pieces := 1 + i%5
		s := breakStone(r, pieces)
		if e := Check(s.h); e != api.OK {
			t.Fatal(i, s, e)
		}
		next := slices.Repeat([]int{-1}, pieces)
		for k, j := range s.joins {
			a, b := s.order[k], s.order[k+1]
			next[a] = b
			shifts, e := Joins(s.h, a, b)
			distance, thick, steps, f := Where(s.h, a, b, j.shift)
			if e != api.OK || f != api.OK || !slices.Contains(shifts, j.shift) || !has(j.distance, distance) || !has(j.thick, thick) || !slices.Contains(steps, j.step) {
				t.Fatal(i, s, k, shifts, e, distance, thick, steps, f)
			}
			if w, g := Why(s.h, a, b, j.shift); g != api.ErrNone || w != (api.Witness{}) {
				t.Fatal(i, s, k, w, g)
			}
			if j.shift != 0 {
				shifted++
			}
			if s.h.Pieces[b].Base.Low >= len(s.h.Pieces[b].Left) {
				below++
			}
		}
		if e := Plan(s.h, next); e != api.OK {
			t.Fatal(i, s, next, e)
		}
		if best, stones, e := Fewest(s.h); e != api.OK || stones != 1 || slices.Compare(best, next) > 0 {
			t.Fatal(i, s, best, stones, e)
		}
	}
	if shifted < 1000 || below < 100 {
		t.Fatal("not enough of each sort:", shifted, below)
	}
}

func TestAllTruthsP4_8(t *testing.T) {
	r := rand.New(rand.NewSource(8))
	some, none, several := 0, 0, 0
	for i := range 1500 {
		h := smallHeap(r, 2, 300)
		all := joinsOf(h, 0, 1)
		shifts, e := Joins(h, 0, 1)
		if e != api.OK || len(shifts) != len(all) || !slices.IsSorted(shifts) {
			t.Fatal(i, h, shifts, e, all)
		}
		for shift := -8; shift <= 8; shift++ {
			want, may := all[shift]
			if may != slices.Contains(shifts, shift) {
				t.Fatal(i, h, shifts, all)
			}
			distance, thick, steps, f := Where(h, 0, 1, shift)
			if distance != want.distance || thick != want.thick || !slices.Equal(steps, want.steps) || (f == api.OK) != may || !may && f != api.ErrClash {
				t.Fatal(i, h, shift, distance, thick, steps, f, want)
			}
			if len(steps) > 1 {
				several++
			}
			if _, g := Why(h, 0, 1, shift); (g == api.ErrNone) != may {
				t.Fatal(i, h, shift, g)
			}
		}
		if len(shifts) > 0 {
			some++
		} else {
			none++
		}
	}
	if some < 300 || none < 300 || several < 100 {
		t.Fatal("not enough of each sort:", some, none, several)
	}
}

// alone returns a heap of two pieces of which nothing is known but what a witness names, that of letters apart.
func alone(h api.Heap, w api.Witness, shift int) api.Heap {
	h = cloned(h)
	for i := range h.Pieces {
		p := &h.Pieces[i]
		p.Begins, p.Ends = nil, nil
		if w.Reason != api.ByThick {
			p.Thick = span(1, api.MaxThick)
		}
		if w.Reason != api.ByLines {
			p.Base = span(0, api.MaxBase)
		}
		for k := range p.Left {
			strip := k + i*shift // of the left piece
			if w.Reason != api.ByBreak || strip != w.First && strip != w.Second {
				p.Left[k], p.Right[k] = span(0, api.MaxReach), span(0, api.MaxReach)
			}
		}
	}
	return h
}

func TestWitnessP4_9(t *testing.T) {
	r := rand.New(rand.NewSource(9))
	reasons := map[int]int{}
	for i := range 4000 {
		h := smallHeap(r, 2, 300)
		if i%3 == 0 {
			h.Pieces[0].Thick = span(4+r.Intn(3), 7)
		}
		for shift := -4; shift <= 4; shift++ {
			w, e := Why(h, 0, 1, shift)
			if e == api.ErrNone {
				continue
			}
			reasons[w.Reason]++
			if e != api.OK || !isRight(h, w, shift) {
				t.Fatal(i, h, shift, w, e)
			}
			if w.Reason == api.ByLetters {
				continue
			}
			known := alone(h, w, shift)
			v, f := Why(known, 0, 1, shift)
			shifts, g := Joins(known, 0, 1)
			if v != w || f != api.OK || g != api.OK || slices.Contains(shifts, shift) {
				t.Fatal(i, h, shift, w, v, f, shifts, g)
			}
		}
	}
	for reason := api.ByThick; reason <= api.ByLetters; reason++ {
		if reasons[reason] < 300 {
			t.Error("not enough of each sort:", reasons)
		}
	}
}

// isRight checks a witness, and that there is none ahead of it.
func isRight(h api.Heap, w api.Witness, shift int) bool {
	reasons := []int{thickReason(h), stripsReason(h, shift), breakReason(h, shift), linesReason(h, shift)}
	first := slices.IndexFunc(reasons, func(n int) bool { return n > 0 })
	switch w.Reason {
	case api.ByThick, api.ByStrips, api.ByLines:
		return first == w.Reason-1 && w.First == 0 && w.Second == 0
	case api.ByBreak:
		return first == w.Reason-1 && reasons[2] == 1+100*w.First+w.Second
	}
	return w.Reason == api.ByLetters && first < 0 && lettersRight(h, w, shift)
}

func thickReason(h api.Heap) int {
	for n := 1; n <= api.MaxThick; n++ {
		if has(n, h.Pieces[0].Thick) && has(n, h.Pieces[1].Thick) {
			return 0
		}
	}
	return 1
}

func stripsReason(h api.Heap, shift int) int {
	many := 0
	for j := range h.Pieces[1].Left {
		if has(j+shift, span(0, len(h.Pieces[0].Right)-1)) {
			many++
		}
	}
	if many < h.Least {
		return 1
	}
	return 0
}

// breakReason returns the first two strips for which together there is no distance, as one number; 0 if there are none.
func breakReason(h api.Heap, shift int) int {
	may := func(i, distance int) bool {
		left := h.Pieces[1].Left[i-shift]
		for r := h.Pieces[0].Right[i].Low; r <= h.Pieces[0].Right[i].High; r++ {
			for l := left.Low; l <= left.High; l++ {
				if has(distance+l-r, span(0, h.Loss)) {
					return true
				}
			}
		}
		return false
	}
	beside := func(i int) bool { return has(i-shift, span(0, len(h.Pieces[1].Left)-1)) }
	for i := range h.Pieces[0].Right {
		for k := i + 1; k < len(h.Pieces[0].Right) && beside(i); k++ {
			there := !beside(k)
			for distance := -farthest; distance <= farthest; distance++ {
				there = there || may(i, distance) && may(k, distance)
			}
			if !there {
				return 1 + 100*i + k
			}
		}
	}
	return 0
}

// stepsOf returns all steps, ascending, whatever letters say.
func stepsOf(h api.Heap, shift int) []int {
	var list []int
	for step := -40; step <= 40; step++ {
		for x := h.Pieces[0].Base.Low; x <= h.Pieces[0].Base.High; x++ {
			if has(x-shift-step*h.Pitch, h.Pieces[1].Base) && !slices.Contains(list, step) {
				list = append(list, step)
			}
		}
	}
	return list
}

func linesReason(h api.Heap, shift int) int {
	if len(stepsOf(h, shift)) == 0 {
		return 1
	}
	return 0
}

// lettersRight reports whether a witness names the first lines of the least step whose halves contradict each other.
func lettersRight(h api.Heap, w api.Witness, shift int) bool {
	step := stepsOf(h, shift)[0]
	for k, ends := range h.Pieces[0].Ends {
		if m := k + step; has(m, span(0, len(h.Pieces[1].Begins)-1)) && !shared(ends, h.Pieces[1].Begins[m]) {
			return k == w.First && m == w.Second
		}
	}
	return false
}

// levelAlone returns a heap whose two pieces contradict each other just in the lines that a witness names.
func levelAlone(h api.Heap, w api.Witness) api.Heap {
	h = cloned(h)
	ends, begins := h.Pieces[0].Ends, h.Pieces[1].Begins
	for k := range ends {
		if m := k + w.Second - w.First; k != w.First && has(m, span(0, len(begins)-1)) {
			ends[k] = begins[m]
		}
	}
	return h
}

// TestLettersAloneP4_9 has witnesses of letters: if the lines are level by this step, no others are needed to refuse it.
func TestLettersAloneP4_9(t *testing.T) {
	r := rand.New(rand.NewSource(10))
	many := 0
	for i := range 4000 {
		h := smallHeap(r, 2, 300)
		shift := i%5 - 2
		w, e := Why(h, 0, 1, shift)
		if e != api.OK || w.Reason != api.ByLetters {
			continue
		}
		many++
		step := w.Second - w.First
		for x := range within(h.Pieces[0].Base) {
			y := x - shift - step*h.Pitch
			if !has(y, h.Pieces[1].Base) {
				continue
			}
			known := levelAlone(h, w)
			known.Pieces[0].Base, known.Pieces[1].Base = span(x, x), span(y, y)
			if v, f := Why(known, 0, 1, shift); v != w || f != api.OK {
				t.Fatal(i, h, known, shift, w, v, f)
			}
		}
	}
	if many < 100 {
		t.Error("not enough:", many)
	}
}

// narrower returns the heap with one thing known better, in all ways that it can be, one step each. A half that is seen stays one: some letter fits it.
func narrower(h api.Heap) []api.Heap {
	var list []api.Heap
	change := func(change func(h *api.Heap)) {
		other := cloned(h)
		change(&other)
		list = append(list, other)
	}
	for i, s := range sidesOf(&h) {
		if s.Low < s.High {
			change(func(h *api.Heap) { sidesOf(h)[i].Low++ })
			change(func(h *api.Heap) { sidesOf(h)[i].High-- })
		}
	}
	for i, letters := range halvesOf(&h) {
		if len(*letters) > 1 {
			change(func(h *api.Heap) { *halvesOf(h)[i] = (*letters)[1:] })
			change(func(h *api.Heap) { *halvesOf(h)[i] = (*letters)[:1] })
		}
	}
	if h.Loss > 0 {
		change(func(h *api.Heap) { h.Loss-- })
	}
	if h.Least < api.MaxStrips {
		change(func(h *api.Heap) { h.Least++ })
	}
	return list
}

func TestKnownBetterP4_10(t *testing.T) {
	r := rand.New(rand.NewSource(11))
	fewer := 0
	for i := range 1000 {
		h := breakStone(r, 2).h
		if i%2 == 0 {
			h = smallHeap(r, 2, 100000)
		}
		wide, _ := Joins(h, 0, 1)
		for _, better := range narrower(h) {
			narrow, e := Joins(better, 0, 1)
			if e != api.OK || slices.ContainsFunc(narrow, func(shift int) bool { return !slices.Contains(wide, shift) }) {
				t.Fatal(i, h, wide, better, narrow, e)
			}
			if len(narrow) < len(wide) {
				fewer++
			}
			for _, shift := range narrow {
				d1, t1, s1, _ := Where(h, 0, 1, shift)
				d2, t2, s2, _ := Where(better, 0, 1, shift)
				if d2.Low < d1.Low || d2.High > d1.High || t2.Low < t1.Low || t2.High > t1.High || slices.ContainsFunc(s2, func(step int) bool { return !slices.Contains(s1, step) }) {
					t.Fatal(i, h, better, shift, d1, d2, t1, t2, s1, s2)
				}
			}
			if Plan(h, []int{1, -1}) != api.OK && Plan(better, []int{1, -1}) == api.OK {
				t.Fatal(i, h, better)
			}
		}
	}
	if fewer < 100 {
		t.Error("not enough:", fewer)
	}
}

// turned returns the heap whose pieces are turned, left to right.
func turned(h api.Heap) api.Heap {
	h = cloned(h)
	for i := range h.Pieces {
		p := &h.Pieces[i]
		for k := range p.Left {
			left, right := p.Left[k], p.Right[k]
			p.Left[k] = span(api.MaxReach-right.High, api.MaxReach-right.Low)
			p.Right[k] = span(api.MaxReach-left.High, api.MaxReach-left.Low)
		}
		p.Begins, p.Ends = p.Ends, p.Begins
	}
	return h
}

func TestMirroredP4_11(t *testing.T) {
	r := rand.New(rand.NewSource(12))
	many := 0
	for i := range 2000 {
		h := breakStone(r, 2).h
		if i%2 == 0 {
			h = smallHeap(r, 2, 100000)
		}
		other := turned(h)
		there, _ := Joins(h, 0, 1)
		round, e := Joins(other, 1, 0)
		slices.Reverse(round)
		if e != api.OK || len(there) != len(round) {
			t.Fatal(i, h, there, round, e)
		}
		for k, shift := range there {
			d1, t1, s1, _ := Where(h, 0, 1, shift)
			d2, t2, s2, _ := Where(other, 1, 0, -shift)
			slices.Reverse(s2)
			if round[k] != -shift || d1 != d2 || t1 != t2 || !slices.EqualFunc(s1, s2, func(a, b int) bool { return a == -b }) {
				t.Fatal(i, h, shift, round, d1, d2, t1, t2, s1, s2)
			}
			many++
		}
		if e, f := Plan(h, []int{1, -1}), Plan(other, []int{-1, 0}); e != f {
			t.Fatal(i, h, e, f)
		}
		_, n, _ := Fewest(h)
		if _, m, _ := Fewest(other); n != m {
			t.Fatal(i, h, n, m)
		}
	}
	if many < 1000 {
		t.Error("not enough:", many)
	}
}

func TestFewestP4_12(t *testing.T) {
	sorts := map[api.Errno]int{}
	most := map[[2]int]int{}
	for i, s := range smalls() {
		pieces := len(s.h.Pieces)
		var want []int
		for _, next := range listsOf(pieces) {
			e := shapeOf(next)
			if e == api.OK && !planFits(s.sets, next) {
				e = api.ErrClash
			}
			if f := Plan(s.h, next); e != f {
				t.Fatal(i, s.h, next, e, f)
			}
			sorts[e]++
			if e == api.OK && (want == nil || stonesOf(next) < stonesOf(want)) {
				want = next
			}
		}
		next, stones, e := Fewest(s.h)
		if e != api.OK || stones != stonesOf(want) || !slices.Equal(next, want) {
			t.Fatal(i, s.h, next, stones, e, want)
		}
		most[[2]int{pieces, stones}]++
	}
	for _, key := range [][2]int{{2, 1}, {2, 2}, {3, 1}, {3, 2}, {3, 3}, {4, 1}, {4, 2}, {4, 3}} {
		if most[key] < 3 {
			t.Error("not enough of each sort:", most)
		}
	}
	for _, e := range []api.Errno{api.OK, api.ErrClash, api.ErrTwice, api.ErrSequence} {
		if sorts[e] < 100 {
			t.Error("not enough of each sort:", sorts)
		}
	}
}

// TestFivePiecesP4_12 looks at all plans of five pieces, as Plan tells them.
func TestFivePiecesP4_12(t *testing.T) {
	r := rand.New(rand.NewSource(13))
	for i := range 30 {
		h := breakStone(r, 5).h
		if i%3 > 0 {
			h = smallHeap(r, 5, 1000000)
		}
		var want []int
		for _, next := range listsOf(5) {
			if Plan(h, next) == api.OK && (want == nil || stonesOf(next) < stonesOf(want)) {
				want = next
			}
		}
		if next, stones, e := Fewest(h); e != api.OK || stones != stonesOf(want) || !slices.Equal(next, want) {
			t.Fatal(i, h, next, stones, e, want)
		}
	}
}

// TestPlansP4_12 compares the plans that are looked at with all lists that are plans.
func TestPlansP4_12(t *testing.T) {
	for pieces := 1; pieces <= 5; pieces++ {
		lists := slices.DeleteFunc(listsOf(pieces), func(next []int) bool { return shapeOf(next) != api.OK })
		for stones := range pieces + 2 {
			var want [][]int
			for _, next := range lists {
				if stonesOf(next) == stones {
					want = append(want, next)
				}
			}
			var got [][]int
			for next := range plans(pieces, stones) {
				got = append(got, slices.Clone(next))
			}
			if !slices.EqualFunc(got, want, slices.Equal[[]int]) {
				t.Fatal(pieces, stones, len(got), len(want))
			}
			for range plans(pieces, stones) {
				break
			}
		}
	}
}

func TestPartsP4_13(t *testing.T) {
	r := rand.New(rand.NewSource(14))
	parts := 0
	for i := range 60 {
		h := breakStone(r, 2+i%3).h
		if i%3 > 0 {
			h = smallHeap(r, 2+i%3, 1000000)
		}
		for _, next := range listsOf(len(h.Pieces)) {
			if Plan(h, next) != api.OK {
				continue
			}
			for a, b := range next {
				if b < 0 {
					continue
				}
				less, single := slices.Clone(next), slices.Repeat([]int{-1}, len(next))
				less[a], single[a] = -1, b
				shifts, e := Joins(h, a, b)
				if Plan(h, less) != api.OK || Plan(h, single) != api.OK || e != api.OK || len(shifts) == 0 {
					t.Fatal(i, h, next, a, b, shifts, e)
				}
				parts++
			}
		}
	}
	if parts < 500 {
		t.Error("not enough:", parts)
	}
}

// TestJoinsAloneP4_13 tests that a plan with one join may be just if Joins has a shift for it.
func TestJoinsAloneP4_13(t *testing.T) {
	for i, s := range smalls() {
		for a := range s.h.Pieces {
			for b := range s.h.Pieces {
				if a == b {
					continue
				}
				single := slices.Repeat([]int{-1}, len(s.h.Pieces))
				single[a] = b
				shifts, e := Joins(s.h, a, b)
				if f := Plan(s.h, single); e != api.OK || (f == api.OK) != (len(shifts) > 0) {
					t.Fatal(i, s.h, a, b, shifts, e, f)
				}
			}
		}
	}
}

func TestNotesP4_14(t *testing.T) {
	r := rand.New(rand.NewSource(15))
	for i := range 2000 {
		h := breakStone(r, 1+i%5).h
		if i%2 == 0 {
			h = smallHeap(r, 1+i/2%5, 1000)
		}
		text, e := Write(h)
		read, line, f := Read(text)
		again, g := Write(read)
		if e != api.OK || f != api.OK || g != api.OK || line != 0 || !same(read, h) || again != text || len(text) > api.MaxNote {
			t.Fatal(i, h, text, e, read, line, f, again, g)
		}
	}
	// Whatever is changed in a note, what is read is written as it was.
	text, _ := Write(example())
	changes := []byte("0123456789:- \nABheapline")
	for i := range len(text) {
		for _, c := range changes {
			note := []byte(text)
			note[i] = c
			if h, _, e := Read(string(note)); e == api.OK {
				if again, f := Write(h); f != api.OK || again != string(note) {
					t.Fatal(string(note), again, f)
				}
			}
		}
	}
}
