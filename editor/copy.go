package editor

import (
	"slices"

	"cippus/api"
	"cippus/basics"
)

// copied returns a desk that shares no memory with d.
func copied(d api.Desk) api.Desk {
	return api.Desk{
		Edition: basics.Edition(d.Edition),
		Dating:  copiedDating(d.Dating),
		Roll:    copiedRoll(d.Roll),
		Dossier: copiedDossier(d.Dossier),
		Lexicon: copiedLexicon(d.Lexicon),
	}
}

func copiedDating(d api.Dating) api.Dating {
	d.Eras, d.Notes = slices.Clone(d.Eras), slices.Clone(d.Notes)
	for i, n := range d.Notes {
		d.Notes[i].Years = slices.Clone(n.Years)
	}
	return d
}

func copiedRoll(r api.Roll) api.Roll {
	r.Offices, r.Men, r.Records = slices.Clone(r.Offices), slices.Clone(r.Men), slices.Clone(r.Records)
	r.Far = copiedLists(r.Far)
	return r
}

func copiedDossier(d api.Dossier) api.Dossier {
	d.Traits, d.Cases = slices.Clone(d.Traits), slices.Clone(d.Cases)
	for i, c := range d.Cases {
		d.Cases[i].Shows = slices.Clone(c.Shows)
	}
	return d
}

func copiedLexicon(x api.Lexicon) api.Lexicon {
	x.Words, x.Widths = slices.Clone(x.Words), slices.Clone(x.Widths)
	x.First, x.Last, x.Next = slices.Clone(x.First), slices.Clone(x.Last), copiedLists(x.Next)
	return x
}

func copiedLists(lists [][]bool) [][]bool {
	lists = slices.Clone(lists)
	for i, l := range lists {
		lists[i] = slices.Clone(l)
	}
	return lists
}
