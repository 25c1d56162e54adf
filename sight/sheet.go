package sight

import (
	"strconv"
	"strings"

	"cippus/api"
	"cippus/basics"
)

// maxDigits is how many digits a number of a sheet has at most.
const maxDigits = 4

// Write returns the sheet of a line.
func Write(l api.Line) (string, api.Errno) {
	if e := Check(l); e != api.OK {
		return "", e
	}
	var sheet strings.Builder
	for _, hand := range l.Hands {
		sheet.WriteString("hand " + strconv.Itoa(hand.Years.Low) + " " + strconv.Itoa(hand.Years.High))
		for _, shape := range hand.Shapes {
			sheet.WriteString(" " + string(rune(shape.Letter)) + strconv.Itoa(shape.Strokes))
		}
		sheet.WriteString("\n")
	}
	sheet.WriteString("marks " + strconv.Itoa(l.Worn) + " " + strconv.Itoa(l.Scratched) + " " + strconv.Itoa(l.Total) + "\n")
	for _, lights := range l.Squares {
		sheet.WriteString("square")
		for _, light := range lights {
			sheet.WriteString(" " + strconv.Itoa(light.Shows) + "/" + strconv.Itoa(light.Seen))
		}
		sheet.WriteString("\n")
	}
	sheet.WriteString("finis\n")
	return sheet.String(), api.OK
}

// Read returns the line of a sheet; with ErrShape for a row that is not as said, its number.
func Read(text string) (l api.Line, row int, e api.Errno) {
	if len(text) > api.MaxSheet {
		return api.Line{}, 0, api.ErrLong
	}
	var r reader
	if row := basics.Rows(text, r.row, r.ended); row != 0 {
		return api.Line{}, row, api.ErrShape
	}
	if e := Check(r.line); e != api.OK {
		return api.Line{}, 0, e
	}
	return r.line, 0, api.OK
}

// The parts of a sheet, in their order.
const (
	partHands = iota
	partSquares
	partEnd
)

// reader is the line as far as its sheet was read, and the part of the sheet to which the next row belongs.
type reader struct {
	line api.Line
	part int
}

func (r *reader) ended() bool { return r.part == partEnd }

// row reads one row, given as its words; it returns false if the row is not as said.
func (r *reader) row(words []string) bool {
	switch words[0] {
	case "hand":
		return r.part == partHands && r.hand(words[1:])
	case "marks":
		if r.part == partHands {
			r.part = partSquares
			return r.marks(words[1:])
		}
		return false
	case "square":
		return r.part == partSquares && r.square(words[1:])
	case "finis":
		if r.part == partSquares {
			r.part = partEnd
			return len(words) == 1
		}
		fallthrough // where it may not stand, it is as wrong as a row that nobody knows
	default:
		return false
	}
}

func (r *reader) hand(words []string) bool {
	if len(words) < 3 {
		return false
	}
	low, first := basics.Signed(words[0], maxDigits)
	high, second := basics.Signed(words[1], maxDigits)
	if !first || !second {
		return false
	}
	hand := api.Hand{Years: api.Span{Low: low, High: high}}
	for _, word := range words[2:] {
		if word == "" || word[0] < 'A' || word[0] > 'Z' {
			return false
		}
		n, ok := basics.Number(word[1:], maxDigits)
		if !ok {
			return false
		}
		hand.Shapes = append(hand.Shapes, api.Shape{Letter: word[0], Strokes: n})
	}
	r.line.Hands = append(r.line.Hands, hand)
	return true
}

func (r *reader) marks(words []string) bool {
	if len(words) != 3 {
		return false
	}
	for i, field := range []*int{&r.line.Worn, &r.line.Scratched, &r.line.Total} {
		n, ok := basics.Number(words[i], maxDigits)
		if !ok {
			return false
		}
		*field = n
	}
	return true
}

func (r *reader) square(words []string) bool {
	var lights []api.Light
	for _, word := range words {
		before, after, _ := strings.Cut(word, "/")
		shows, first := basics.Number(before, maxDigits)
		seen, second := basics.Number(after, maxDigits)
		if !first || !second {
			return false
		}
		lights = append(lights, api.Light{Shows: shows, Seen: seen})
	}
	r.line.Squares = append(r.line.Squares, lights)
	return true
}
