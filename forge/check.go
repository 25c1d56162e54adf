package forge

import (
	"cippus/api"
	"cippus/basics"
)

// ground is the shop of a case that was dug out.
const ground = -1

// Check returns the first error of a dossier.
func Check(d api.Dossier) api.Errno {
	if basics.Outside(d.Begin, -api.MaxYear, api.MaxYear) || basics.Outside(d.Most, 0, api.MaxShops) || basics.Outside(d.Shops, 0, api.MaxShops) {
		return api.ErrBounds
	}
	if len(d.Traits) > api.MaxTraits {
		return api.ErrMany
	}
	for _, t := range d.Traits {
		if e := checkYears(t.From, t.Until, t.Known); e != api.OK {
			return e
		}
	}
	if e := basics.Count(len(d.Cases), 1, api.MaxCases); e != api.OK {
		return e
	}
	for _, c := range d.Cases {
		if e := checkCase(d, c); e != api.OK {
			return e
		}
	}
	return api.OK
}

// checkYears returns the first error of some spans of years.
func checkYears(spans ...api.Span) api.Errno {
	for _, years := range spans {
		if e := basics.Years(years); e != api.OK {
			return e
		}
	}
	return api.OK
}

func checkCase(d api.Dossier, c api.Case) api.Errno {
	for i, trait := range c.Shows {
		if basics.Outside(trait, 0, len(d.Traits)-1) {
			return api.ErrAbsent
		}
		if i > 0 && trait <= c.Shows[i-1] {
			return api.ErrSequence
		}
	}
	if e := checkYears(c.Cut, c.Seen); e != api.OK {
		return e
	}
	if basics.Outside(c.Shop, ground, d.Shops-1) {
		return api.ErrAbsent
	}
	return api.OK
}

func isCase(d api.Dossier, c int) bool { return !basics.Outside(c, 0, len(d.Cases)-1) }
