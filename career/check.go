package career

import (
	"cippus/api"
	"cippus/basics"
)

// none is the office of a man who was seen without one.
const none = -1

// Check returns the first error of a roll.
func Check(r api.Roll) api.Errno {
	for _, check := range []func(api.Roll) api.Errno{checkOffices, checkAges, checkTowns, checkMen, checkRecords} {
		if e := check(r); e != api.OK {
			return e
		}
	}
	return api.OK
}

func checkOffices(r api.Roll) api.Errno {
	if len(r.Offices) > api.MaxOffices {
		return api.ErrMany
	}
	for _, o := range r.Offices {
		if basics.Outside(o.Age, 0, api.MaxAge) || basics.Outside(o.Gap, 0, api.MaxAge) || basics.Outside(o.Again, 1, api.MaxAge) {
			return api.ErrBounds
		}
	}
	return api.OK
}

func checkAges(r api.Roll) api.Errno {
	if basics.Outside(r.Life, 0, api.MaxAge) {
		return api.ErrBounds
	}
	return basics.Span(r.Parents, 1, api.MaxAge)
}

func checkTowns(r api.Roll) api.Errno {
	if e := basics.Count(len(r.Far), 1, api.MaxTowns); e != api.OK {
		return e
	}
	for town, far := range r.Far {
		if len(far) != len(r.Far) || far[town] {
			return api.ErrShape
		}
		for before := range town {
			if far[before] != r.Far[before][town] {
				return api.ErrShape
			}
		}
	}
	return api.OK
}

func checkMen(r api.Roll) api.Errno {
	if e := basics.Count(len(r.Men), 1, api.MaxMen); e != api.OK {
		return e
	}
	for _, m := range r.Men {
		if basics.Outside(m.Name, 0, api.MaxNames) {
			return api.ErrBounds
		}
		for _, years := range []api.Span{m.Born, m.Died} {
			if e := basics.Years(years); e != api.OK {
				return e
			}
		}
	}
	return api.OK
}

func checkRecords(r api.Roll) api.Errno {
	if len(r.Records) > api.MaxRecords {
		return api.ErrMany
	}
	for _, rec := range r.Records {
		check := checkHeld
		if rec.Kin {
			check = checkKin
		}
		if !isMan(r, rec.Man) {
			return api.ErrAbsent
		}
		if e := check(r, rec); e != api.OK {
			return e
		}
	}
	return api.OK
}

func isMan(r api.Roll, man int) bool { return !basics.Outside(man, 0, len(r.Men)-1) }

func checkKin(r api.Roll, rec api.Record) api.Errno {
	switch {
	case !isMan(r, rec.Child):
		return api.ErrAbsent
	case rec.Child == rec.Man:
		return api.ErrTwice
	case rec.Office != 0 || rec.Town != 0 || rec.When != (api.Span{}):
		return api.ErrShape
	}
	return api.OK
}

func checkHeld(r api.Roll, rec api.Record) api.Errno {
	switch {
	case basics.Outside(rec.Office, none, len(r.Offices)-1) || basics.Outside(rec.Town, 0, len(r.Far)-1):
		return api.ErrAbsent
	case rec.Child != 0:
		return api.ErrShape
	}
	return basics.Years(rec.When)
}
