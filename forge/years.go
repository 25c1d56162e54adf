package forge

import (
	"cippus/api"
	"cippus/basics"
)

// upTo are all years up to one.
func upTo(year int) api.Span { return api.Span{Low: -api.MaxYear, High: year} }

// since are all years from one on.
func since(year int) api.Span { return api.Span{Low: year, High: api.MaxYear} }

// met returns the years that are in all of some spans.
func met(spans ...api.Span) api.Span {
	common := upTo(api.MaxYear)
	for _, years := range spans {
		common = basics.Common(common, years)
	}
	return common
}

func empty(years api.Span) bool { return years.Low > years.High }

// inUse are the years in which a trait may have been in use. There may be none.
func inUse(t api.Trait) api.Span { return api.Span{Low: t.From.Low, High: t.Until.High} }

// bound is years of genuineness of a case, and by what they are: TheClaim, TheSight or a trait.
type bound struct {
	by    int
	years api.Span
}

// bounds returns all years of genuineness of a case, in the order of what they are by.
func bounds(d api.Dossier, c api.Case) []bound {
	list := []bound{{api.TheClaim, c.Cut}, {api.TheSight, upTo(c.Seen.High)}}
	for _, trait := range c.Shows {
		list = append(list, bound{trait, inUse(d.Traits[trait])})
	}
	return list
}

// cut returns the years in which a case may have been cut if it is genuine. There are some just if no two of its years of genuineness contradict each other, since of spans each two of which meet all do.
func cut(d api.Dossier, c api.Case) api.Span {
	var spans []api.Span
	for _, b := range bounds(d, c) {
		spans = append(spans, b.years)
	}
	return met(spans...)
}

// secret returns the traits that a case shows, and of which nobody could know.
func secret(d api.Dossier, c api.Case) []int {
	var list []int
	for _, trait := range c.Shows {
		if d.Traits[trait].Known.Low > c.Seen.High {
			list = append(list, trait)
		}
	}
	return list
}

// forgeable reports whether a case may be forged, as far as it alone tells.
func forgeable(d api.Dossier, c api.Case) bool {
	return c.Shop != ground && c.Seen.High >= d.Begin && len(secret(d, c)) == 0
}
