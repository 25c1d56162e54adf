package join

import (
	"strconv"
	"strings"

	"cippus/api"
	"cippus/basics"
)

// maxDigits is how many digits a number of a note has at most.
const maxDigits = 5

// noLetters is how no letters are written.
const noLetters = "-"

// The words with which the lines of a note begin.
const (
	wordHeap  = "heap"
	wordPiece = "piece"
	wordStrip = "strip"
	wordLine  = "line"
	wordEnd   = "end"
)

// Write returns the note of a heap.
func Write(h api.Heap) (string, api.Errno) {
	if e := Check(h); e != api.OK {
		return "", e
	}
	rows := []string{wordHeap + " " + strconv.Itoa(h.Pitch) + " " + strconv.Itoa(h.Loss) + " " + strconv.Itoa(h.Least)}
	for _, piece := range h.Pieces {
		rows = append(rows, wordPiece+" "+spanText(piece.Thick)+" "+spanText(piece.Base))
		for strip, left := range piece.Left {
			rows = append(rows, wordStrip+" "+spanText(left)+" "+spanText(piece.Right[strip]))
		}
		for line, begins := range piece.Begins {
			rows = append(rows, wordLine+" "+lettersText(begins)+" "+lettersText(piece.Ends[line]))
		}
	}
	rows = append(rows, wordEnd)
	return strings.Join(rows, "\n") + "\n", api.OK
}

func spanText(s api.Span) string { return strconv.Itoa(s.Low) + ":" + strconv.Itoa(s.High) }

func lettersText(letters string) string {
	if letters == "" {
		return noLetters
	}
	return letters
}

// Read returns the heap of a note; with ErrShape for a line that is not as said, its number.
func Read(text string) (h api.Heap, line int, e api.Errno) {
	if len(text) > api.MaxNote {
		return api.Heap{}, 0, api.ErrLong
	}
	var r reader
	if line := basics.Rows(text, r.row, r.ended); line != 0 {
		return api.Heap{}, line, api.ErrShape
	}
	if e := Check(r.heap); e != api.OK {
		return api.Heap{}, 0, e
	}
	return r.heap, 0, api.OK
}

// reader is the heap as far as its note was read, and the word with which the last line began.
type reader struct {
	heap api.Heap
	last string
}

func (r *reader) ended() bool { return r.last == wordEnd }

// may reports whether a line that begins with a word may come next. What holds for a sort of lines holds for the sorts ahead of it, too, that fall through to it.
func (r *reader) may(word string) bool {
	switch word {
	case wordStrip:
		if r.last == wordLine {
			return false
		}
		fallthrough
	case wordLine:
		if r.last == wordHeap {
			return false
		}
		fallthrough
	case wordPiece, wordEnd:
		return r.last != "" && r.last != wordEnd
	case wordHeap:
		return r.last == ""
	}
	return false
}

// row reads one line, given as its parts; it returns false if the line is not as said.
func (r *reader) row(parts []string) bool {
	word, rest := parts[0], parts[1:]
	if !r.may(word) {
		return false
	}
	r.last = word
	switch word {
	case wordHeap:
		return r.head(rest)
	case wordPiece:
		return r.piece(rest)
	case wordStrip:
		return r.strip(rest)
	case wordLine:
		return r.line(rest)
	}
	return len(rest) == 0
}

func (r *reader) head(parts []string) bool {
	if len(parts) != 3 {
		return false
	}
	for i, field := range []*int{&r.heap.Pitch, &r.heap.Loss, &r.heap.Least} {
		n, ok := basics.Number(parts[i], maxDigits)
		if !ok {
			return false
		}
		*field = n
	}
	return true
}

func (r *reader) piece(parts []string) bool {
	thick, base, ok := readSpans(parts)
	r.heap.Pieces = append(r.heap.Pieces, api.Piece{Thick: thick, Base: base})
	return ok
}

func (r *reader) strip(parts []string) bool {
	left, right, ok := readSpans(parts)
	piece := r.current()
	piece.Left = append(piece.Left, left)
	piece.Right = append(piece.Right, right)
	return ok
}

func (r *reader) line(parts []string) bool {
	if len(parts) != 2 {
		return false
	}
	begins, first := readLetters(parts[0])
	ends, second := readLetters(parts[1])
	piece := r.current()
	piece.Begins = append(piece.Begins, begins)
	piece.Ends = append(piece.Ends, ends)
	return first && second
}

// current is the piece that is being read.
func (r *reader) current() *api.Piece { return &r.heap.Pieces[len(r.heap.Pieces)-1] }

// readSpans reads parts that are two spans.
func readSpans(parts []string) (s, t api.Span, ok bool) {
	if len(parts) != 2 {
		return api.Span{}, api.Span{}, false
	}
	s, first := readSpan(parts[0])
	t, second := readSpan(parts[1])
	return s, t, first && second
}

func readSpan(part string) (api.Span, bool) {
	before, after, _ := strings.Cut(part, ":")
	low, first := basics.Number(before, maxDigits)
	high, second := basics.Number(after, maxDigits)
	return api.Span{Low: low, High: high}, first && second
}

func readLetters(part string) (string, bool) {
	if part == noLetters {
		return "", true
	}
	return part, part != "" && basics.AllLetters(part)
}
