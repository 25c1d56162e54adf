package gap

import (
	"strconv"
	"strings"

	"cippus/api"
	"cippus/basics"
)

// maxDigits is how many digits a number of a row has at most.
const maxDigits = 4

// Write returns how a row is written.
func Write(r []api.Cell) (string, api.Errno) {
	if e := CheckRow(r); e != api.OK {
		return "", e
	}
	return strings.Join(each(r, written), "") + "\n", api.OK
}

func written(cell api.Cell) string {
	switch {
	case cell.Gap:
		return "[" + strconv.Itoa(cell.Width.Low) + "-" + strconv.Itoa(cell.Width.High) + "]"
	case cell.Letters == "":
		return "."
	case len(cell.Letters) == 1:
		return cell.Letters
	}
	return "(" + cell.Letters + ")"
}

// Read returns the row of a text; with ErrShape, the number of the byte at which something begins that is not as said.
func Read(text string) (r []api.Cell, at int, e api.Errno) {
	if len(text) > api.MaxRow {
		return nil, 0, api.ErrLong
	}
cells:
	for at < len(text) {
		var cell api.Cell
		size := 1
		switch c := text[at]; {
		case basics.IsLetter(c):
			cell.Letters = text[at : at+1]
		case c == '(':
			cell.Letters, size = readLetters(text[at:])
		case c == '[':
			cell.Width, size = readWidth(text[at:])
			cell.Gap = true
		case c != '.':
			break cells
		}
		if size == 0 {
			break cells
		}
		r = append(r, cell)
		at += size
	}
	if text[at:] != "\n" {
		return nil, at, api.ErrShape
	}
	if e := CheckRow(r); e != api.OK {
		return nil, 0, e
	}
	return r, 0, api.OK
}

// readLetters returns the letters in the brackets with which a text begins, and how many bytes they have together, 0 if they are not as said.
func readLetters(text string) (string, int) {
	inside, _, closed := strings.Cut(text[1:], ")")
	if !closed || len(inside) < 2 || !basics.Ascending(inside) {
		return "", 0
	}
	return inside, len(inside) + len("()")
}

// readWidth returns the width in the brackets with which a text begins, and how many bytes they have together, 0 if they are not as said.
func readWidth(text string) (api.Span, int) {
	inside, _, closed := strings.Cut(text[1:], "]")
	before, after, _ := strings.Cut(inside, "-")
	low, first := basics.Number(before, maxDigits)
	high, second := basics.Number(after, maxDigits)
	if !closed || !first || !second {
		return api.Span{}, 0
	}
	return api.Span{Low: low, High: high}, len(inside) + len("[]")
}
