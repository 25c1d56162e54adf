package editor

import (
	"cippus/api"
	"cippus/basics"
)

// must leaves, by a panic with the error, what is tried, unless something is so.
func must(so bool, e api.Errno) {
	if !so {
		panic(e)
	}
}

// taken returns what a layer returned; what is tried is left if that is an error.
func taken[T any](result T, e api.Errno) T {
	must(e == api.OK, e)
	return result
}

// one returns the number of one of so many things, from 0 on; what is tried is left if none has it.
func one(number, many int) int {
	must(!basics.Outside(number, 0, many-1), api.ErrAbsent)
	return number
}

// tried does some work, and returns the error with which it was left, if it was.
func tried(work func()) (e api.Errno) {
	defer func() {
		switch cause := recover().(type) {
		case nil:
		case api.Errno:
			e = cause
		default:
			panic(cause)
		}
	}()
	work()
	return api.OK
}
