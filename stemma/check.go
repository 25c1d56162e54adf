package stemma

import (
	"cippus/api"
	"cippus/basics"
)

// Check returns the first error of a tradition.
func Check(l []api.Copy) api.Errno {
	if e := basics.Count(len(l), 1, api.MaxCopies); e != api.OK {
		return e
	}
	for _, c := range l {
		switch {
		case basics.Outside(len(c.Text), 1, api.MaxPlaces) || !basics.AllLetters(c.Text) || len(c.Text) != len(l[0].Text):
			return api.ErrShape
		case basics.Outside(c.Errors, 0, api.MaxErrors):
			return api.ErrBounds
		}
	}
	return api.OK
}

func isCopy(l []api.Copy, i int) bool { return !basics.Outside(i, 0, len(l)-1) }
