package editor

import (
	"cippus/api"
	"cippus/edition"
	"cippus/forge"
	"cippus/gap"
)

// find tells which slab has a number in a book.
func (x *editor) find(o order) any {
	n := o.numbers(2)
	return taken(edition.Find(x.Edition, n[0], n[1]))
}

// stone tells what is on the stone in a line.
func (x *editor) stone(o order) any { return taken(edition.Stone(signs(x.line(o)))) }

// words tells what is read in a line.
func (x *editor) words(o order) any { return read(x.line(o)) }

// fill tells how many fillings a line has.
func (x *editor) fill(o order) any { return taken(gap.Count(x.Lexicon, row(signs(x.line(o))))) }

// line returns the line of a stone that an order names.
func (x *editor) line(o order) string {
	n := o.numbers(2)
	lines := x.Edition.Slabs[one(n[0], len(x.dates))].Lines
	return lines[one(n[1], len(lines))]
}

// years tells between which years a stone was cut.
func (x *editor) years(o order) any { return ends(x.dates[one(o.numbers(1)[0], len(x.dates))]) }

// life tells between which years a man was born, and died.
func (x *editor) life(o order) any { return x.lifeOf(one(o.numbers(1)[0], len(x.Roll.Men))) }

// trial tells whether a stone is genuine.
func (x *editor) trial(o order) any {
	return verdict(x.verdicts[one(o.numbers(1)[0], len(x.verdicts))])
}

// why tells what a stone shows that contradicts each other.
func (x *editor) why(o order) any {
	first, second, e := forge.Why(x.Dossier, o.numbers(1)[0])
	return taken([]int{first, second}, e)
}

func signs(line string) []api.Sign { return taken(edition.Signs(line)) }

// read returns what is read in a line.
func read(line string) string { return taken(edition.Words(signs(line))) }

// row returns the cells of a line, as far as it has any.
func row(line []api.Sign) []api.Cell {
	const widest = 1000
	var cells []api.Cell
	for _, s := range line {
		switch s.Kind {
		case api.SignSure, api.SignAdded, api.SignSolved, api.SignErased:
			cells = append(cells, api.Cell{Letters: string(s.Letter)})
		case api.SignDoubt, api.SignLost:
			cells = append(cells, api.Cell{})
		case api.SignGap:
			cells = append(cells, api.Cell{Gap: true, Width: api.Span{High: widest}})
		}
	}
	return cells
}
