package sums

import (
	"strings"

	"cippus/api"
	"cippus/basics"
)

// Check returns the first error of an account.
func Check(l []api.Entry) api.Errno {
	if e := basics.Count(len(l), 1, api.MaxEntries); e != api.OK {
		return e
	}
	many := 0
	for _, entry := range l {
		if e := checkEntry(entry); e != api.OK {
			return e
		}
		many += strings.Count(entry.Signs, string(lost))
	}
	if many > api.MaxLost {
		return api.ErrMany
	}
	return api.OK
}

func checkEntry(entry api.Entry) api.Errno {
	switch {
	case basics.Outside(entry.Kind, api.EntryItem, api.EntryAll):
		return api.ErrSort
	case basics.Outside(len(entry.Signs), 1, api.MaxSigns):
		return api.ErrShape
	}
	for _, letter := range entry.Signs {
		if _, known := place(letter); !known && letter != lost {
			return api.ErrShape
		}
	}
	for range fitting(entry.Signs) {
		return api.OK // one that fits is enough
	}
	return api.ErrNone
}
