// Package sight is layer 1: see shared/doc/01-sight.md.
package sight

import (
	"cippus/api"
	"cippus/basics"
)

// Check returns the first error of a line.
func Check(l api.Line) api.Errno {
	if e := basics.Count(len(l.Hands), 1, api.MaxHands); e != api.OK {
		return e
	}
	for _, hand := range l.Hands {
		if e := checkHand(hand); e != api.OK {
			return e
		}
	}
	if basics.Outside(l.Worn, 0, api.MaxStrokes) || basics.Outside(l.Scratched, 0, api.MaxStrokes) || basics.Outside(l.Total, 0, api.MaxMarks) {
		return api.ErrBounds
	}
	if e := basics.Count(len(l.Squares), 1, api.MaxSquares); e != api.OK {
		return e
	}
	for _, lights := range l.Squares {
		if e := checkSquare(lights); e != api.OK {
			return e
		}
	}
	return api.OK
}

func checkHand(hand api.Hand) api.Errno {
	years := hand.Years
	if basics.Outside(years.Low, -api.MaxYear, api.MaxYear) || basics.Outside(years.High, -api.MaxYear, api.MaxYear) {
		return api.ErrBounds
	}
	if years.Low > years.High {
		return api.ErrSequence
	}
	if e := basics.Count(len(hand.Shapes), 1, api.MaxShapes); e != api.OK {
		return e
	}
	for i, shape := range hand.Shapes {
		switch {
		case shape.Letter < 'A' || shape.Letter > 'Z':
			return api.ErrSort
		case basics.Outside(shape.Strokes, 1, allStrokes):
			return api.ErrBounds
		case i > 0 && shape.Letter <= hand.Shapes[i-1].Letter:
			return api.ErrSequence
		}
	}
	return api.OK
}

func checkSquare(lights []api.Light) api.Errno {
	if len(lights) > api.MaxLights {
		return api.ErrMany
	}
	for _, light := range lights {
		if basics.Outside(light.Shows, 0, allStrokes) || basics.Outside(light.Seen, 0, allStrokes) {
			return api.ErrBounds
		}
		if light.Seen&^light.Shows != 0 {
			return api.ErrShape
		}
	}
	return api.OK
}

// Hands returns the hands that fit, ascending.
func Hands(l api.Line) ([]int, api.Errno) {
	if e := Check(l); e != api.OK {
		return nil, e
	}
	var hands []int
	for hand := range fitting(l, cutters(l)) {
		hands = append(hands, hand)
	}
	if len(hands) == 0 {
		return nil, api.ErrClash
	}
	return hands, api.OK
}

// Letters returns for each square all letters that fit, in the order of the alphabet.
func Letters(l api.Line) ([]string, api.Errno) {
	if _, e := Hands(l); e != api.OK {
		return nil, e
	}
	var all []string
	for _, set := range gather(l, cutters(l)) {
		all = append(all, inOrder(set))
	}
	return all, api.OK
}

// Years returns the years from the first to the last one of all hands that fit.
func Years(l api.Line) (api.Span, api.Errno) {
	hands, e := Hands(l)
	if e != api.OK {
		return api.Span{}, e
	}
	years := l.Hands[hands[0]].Years
	for _, hand := range hands[1:] {
		years.Low = least(years.Low, l.Hands[hand].Years.Low)
		years.High = max(years.High, l.Hands[hand].Years.High)
	}
	return years, api.OK
}

// Print returns the line as it is printed: letters that are sure, others in braces, and a - where too many fit.
func Print(l api.Line) (string, api.Errno) {
	squares, e := Letters(l)
	if e != api.OK {
		return "", e
	}
	text := ""
	for _, letters := range squares {
		switch len(letters) {
		case 1:
			text += letters
		case 2, 3:
			text += "{" + letters + "}"
		default:
			text += "-"
		}
	}
	return text, api.OK
}

// Marks returns how many worn strokes and scratches the line has at least, whatever its Total is.
func Marks(l api.Line) (int, api.Errno) {
	if e := Check(l); e != api.OK {
		return 0, e
	}
	var sums []int
	for _, c := range cutters(l) {
		sum := 0
		for square := range l.Squares {
			sum += c.fewest(square)
		}
		sums = append(sums, sum)
	}
	marks := least(never, sums...)
	if marks == never {
		return 0, api.ErrClash
	}
	return marks, api.OK
}

// Look returns the square whose letter would be best to be known, and its rest: how many letters would then fit the other squares at most.
func Look(l api.Line) (square, letters int, e api.Errno) {
	squares, e := Letters(l)
	if e != api.OK {
		return 0, 0, e
	}
	all := cutters(l)
	square, letters = 0, rest(l, all, 0, squares[0])
	for i := 1; i < len(squares); i++ {
		if n := rest(l, all, i, squares[i]); n < letters {
			square, letters = i, n
		}
	}
	return square, letters, api.OK
}
