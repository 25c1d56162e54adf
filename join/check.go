package join

import (
	"cippus/api"
	"cippus/basics"
)

// Check returns the first error of a heap.
func Check(h api.Heap) api.Errno {
	if basics.Outside(h.Pitch, 1, api.MaxPitch) || basics.Outside(h.Loss, 0, api.MaxLoss) || basics.Outside(h.Least, 1, api.MaxStrips) {
		return api.ErrBounds
	}
	if e := basics.Count(len(h.Pieces), 1, api.MaxPieces); e != api.OK {
		return e
	}
	for _, piece := range h.Pieces {
		if e := checkPiece(piece); e != api.OK {
			return e
		}
	}
	return api.OK
}

func checkPiece(p api.Piece) api.Errno {
	if e := basics.Span(p.Thick, 1, api.MaxThick); e != api.OK {
		return e
	}
	if e := basics.Span(p.Base, 0, api.MaxBase); e != api.OK {
		return e
	}
	if e := checkStrips(p); e != api.OK {
		return e
	}
	return checkLines(p)
}

func checkStrips(p api.Piece) api.Errno {
	if e := basics.Count(len(p.Left), 1, api.MaxStrips); e != api.OK {
		return e
	}
	if len(p.Right) != len(p.Left) {
		return api.ErrShape
	}
	for _, side := range [][]api.Span{p.Left, p.Right} {
		for _, reach := range side {
			if e := basics.Span(reach, 0, api.MaxReach); e != api.OK {
				return e
			}
		}
	}
	return api.OK
}

func checkLines(p api.Piece) api.Errno {
	if len(p.Begins) > api.MaxLines {
		return api.ErrMany
	}
	if len(p.Ends) != len(p.Begins) {
		return api.ErrShape
	}
	for _, side := range [][]string{p.Begins, p.Ends} {
		for _, letters := range side {
			if !basics.Ascending(letters) {
				return api.ErrShape
			}
		}
	}
	return api.OK
}

// checkTwo returns the first error of a heap, then that of two pieces of it.
func checkTwo(h api.Heap, a, b int) api.Errno {
	if e := Check(h); e != api.OK {
		return e
	}
	last := len(h.Pieces) - 1
	switch {
	case basics.Outside(a, 0, last) || basics.Outside(b, 0, last):
		return api.ErrAbsent
	case a == b:
		return api.ErrTwice
	}
	return api.OK
}
