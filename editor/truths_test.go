package editor

import (
	"encoding/json"
	"math/rand"
	"regexp"
	"slices"
	"strconv"
	"strings"

	"cippus/api"
	"cippus/career"
	"cippus/date"
	"cippus/edition"
	"cippus/forge"
	"cippus/gap"
)

func to(low, high int) api.Span { return api.Span{Low: low, High: high} }

// example is the desk K of the chapter.
func example() api.Desk {
	return api.Desk{
		Edition: api.Edition{Books: 2, Slabs: []api.Slab{
			{Numbers: []int{5, 1}, Lines: []string{"ARMA", "AR'[MA ..]Q(VE) {A}B<C>#D#_[---]"}},
			{Numbers: []int{0, 2}, Lines: []string{"CANO"}},
		}},
		Dating: api.Dating{Stones: 2, Notes: []api.Note{
			{Kind: api.NoteSpan, Stone: 0, Span: to(50, 60)},
			{Kind: api.NoteSpan, Stone: 1, Span: to(100, 120)},
		}},
		Roll: api.Roll{
			Offices: []api.Office{{Age: 25, Gap: 0, Again: 5}, {Age: 30, Gap: 3, Again: 10}},
			Life:    90, Parents: to(15, 60),
			Far: [][]bool{{false, true}, {true, false}},
			Men: []api.Man{{Name: 4, Born: to(0, 40), Died: to(50, 100)}, {Name: 4, Born: to(60, 90), Died: to(100, 150)}},
		},
		Dossier: api.Dossier{
			Begin: 1400, Most: 1, Shops: 1,
			Traits: []api.Trait{{From: to(70, 80), Until: to(200, 210), Known: to(1500, 1510)}},
			Cases:  []api.Case{{Cut: to(40, 90), Seen: to(1600, 1600), Shop: 0}, {Cut: to(90, 130), Seen: to(1700, 1700), Shop: -1}},
		},
		Lexicon: lexicon("ARMA", "CANO"),
	}
}

// with returns the desk K with changes.
func with(changes ...func(d *api.Desk)) api.Desk {
	d := example()
	for _, change := range changes {
		change(&d)
	}
	return d
}

// lexicon has words of one form that may begin, end and follow each other, with letters that are all 1 wide.
func lexicon(words ...string) api.Lexicon {
	x := api.Lexicon{First: []bool{true}, Last: []bool{true}, Next: [][]bool{{true}}, Widths: slices.Repeat([]api.Span{to(1, 1)}, 26)}
	for _, word := range words {
		x.Words = append(x.Words, api.Word{Text: word})
	}
	return x
}

// cloned returns a desk that shares no memory with d.
func cloned(d api.Desk) api.Desk {
	text, err := json.Marshal(d)
	var c api.Desk
	if err == nil {
		err = json.Unmarshal(text, &c)
	}
	if err != nil {
		panic(err)
	}
	return c
}

// equal reports whether two desks are, if nil is as empty.
func equal(d, c api.Desk) bool {
	a, err := json.Marshal(d)
	b, err2 := json.Marshal(c)
	plain := strings.NewReplacer("null", "[]")
	return err == nil && err2 == nil && plain.Replace(string(a)) == plain.Replace(string(b))
}

// forms has how many numbers the line of each word has.
var forms = map[string]int{
	"fix": 5, "renumber": 0, "span": 3, "after": 4, "held": 4, "kin": 2, "shows": 2, "claim": 1,
	"find": 2, "stone": 2, "words": 2, "years": 1, "life": 1, "trial": 1, "why": 1, "fill": 2,
}

// asks are the words of lines that change nothing.
var asks = []string{"find", "stone", "words", "years", "life", "trial", "why", "fill"}

var shape = regexp.MustCompile(`(?s)^([a-z]+)((?: (?:0|-?[1-9][0-9]{0,3}))*)$`)

var fixShape = regexp.MustCompile(`(?s)^fix((?: (?:0|-?[1-9][0-9]{0,3})){5}) (.*)$`)

// plainNumbers returns the word, the numbers and the text of a line; false if it is not as said.
func plainNumbers(line string) (word string, n []int, text string, right bool) {
	parts := fixShape.FindStringSubmatch(line)
	if parts != nil {
		parts = []string{line, "fix", parts[1], parts[2]}
	} else if parts = shape.FindStringSubmatch(line); parts == nil || parts[1] == "fix" {
		return "", nil, "", false
	} else {
		parts = append(parts, "")
	}
	for _, number := range strings.Fields(parts[2]) {
		i, err := strconv.Atoi(number)
		if err != nil {
			panic(err)
		}
		n = append(n, i)
	}
	many, known := forms[parts[1]]
	return parts[1], n, parts[3], known && many == len(n)
}

// plainly returns the desk after a line, and the reply, by the table of the chapter, from the top to the bottom.
func plainly(d api.Desk, line string) (api.Desk, string) {
	word, n, text, right := plainNumbers(line)
	if !right {
		return d, "error 2"
	}
	c := cloned(d)
	var reply string
	var e api.Errno
	if slices.Contains(asks, word) {
		reply, e = plainAnswer(d, word, n)
	} else {
		reply, e = "ok", plainChange(&c, word, n, text)
	}
	if e != api.OK {
		return d, "error " + strconv.Itoa(int(e))
	}
	return c, reply
}

func plainConvicted(d api.Desk, s int) bool {
	genuine, _ := forge.Genuine(d.Dossier)
	return genuine[s] == api.No
}

func isStone(d api.Desk, s int) bool { return s >= 0 && s < d.Dating.Stones }

// plainChange changes a desk, or returns the error with which the line is refused.
func plainChange(d *api.Desk, word string, n []int, text string) (e api.Errno) {
	years, _ := date.Years(d.Dating)
	switch word {
	case "fix":
		next, _, e := edition.Apply(d.Edition, []api.Change{{Book: n[0], Number: n[1], Line: n[2], From: n[3], Until: n[4], Text: text}})
		if e != api.OK {
			return e
		}
		s := slices.IndexFunc(d.Edition.Slabs, func(s api.Slab) bool { return s.Numbers[n[0]] == n[1] })
		if plainConvicted(*d, s) {
			return api.ErrClash
		}
		d.Edition = next
	case "renumber":
		d.Edition, e = edition.Renumber(d.Edition)
	case "span", "after":
		note := api.Note{Kind: api.NoteSpan, Stone: n[0], Span: to(n[len(n)-2], n[len(n)-1])}
		if word == "after" {
			note.Kind, note.Other = api.NoteAfter, n[1]
		}
		d.Dating.Notes = append(d.Dating.Notes, note)
		_, e = date.Years(d.Dating)
	case "held", "kin":
		rec := api.Record{Kin: true, Man: n[0], Child: n[1]}
		if word == "held" {
			if !isStone(*d, n[3]) {
				return api.ErrAbsent
			}
			if plainConvicted(*d, n[3]) {
				return api.ErrClash
			}
			rec = api.Record{Man: n[0], Office: n[1], Town: n[2], When: years[n[3]]}
		}
		d.Roll.Records = append(d.Roll.Records, rec)
		_, _, e = career.Lives(d.Roll)
	case "shows", "claim":
		if !isStone(*d, n[0]) {
			return api.ErrAbsent
		}
		stone := &d.Dossier.Cases[n[0]]
		if word == "shows" {
			if slices.Contains(stone.Shows, n[1]) {
				return api.ErrTwice
			}
			stone.Shows = append(stone.Shows, n[1])
			slices.Sort(stone.Shows)
		} else {
			stone.Cut = to(max(stone.Cut.Low, years[n[0]].Low), min(stone.Cut.High, years[n[0]].High))
			if stone.Cut.Low > stone.Cut.High {
				return api.ErrClash
			}
		}
		_, e = forge.Genuine(d.Dossier)
	}
	return e
}

// spoken returns numbers as they are in a reply.
func spoken(n ...int) string {
	var words []string
	for _, i := range n {
		words = append(words, strconv.Itoa(i))
	}
	return strings.Join(words, " ")
}

// plainAnswer returns what is told of a desk, or the error with which the line is refused.
func plainAnswer(d api.Desk, word string, n []int) (string, api.Errno) {
	men := len(d.Roll.Men)
	switch {
	case word == "find":
		s, e := edition.Find(d.Edition, n[0], n[1])
		return spoken(s), e
	case word == "why":
		first, second, e := forge.Why(d.Dossier, n[0])
		return spoken(first, second), e
	case word == "life" && (n[0] < 0 || n[0] >= men), word != "life" && !isStone(d, n[0]):
		return "", api.ErrAbsent
	case word == "life":
		born, died, e := career.Lives(d.Roll)
		return spoken(born[n[0]].Low, born[n[0]].High, died[n[0]].Low, died[n[0]].High), e
	case word == "years":
		years, e := date.Years(d.Dating)
		return spoken(years[n[0]].Low, years[n[0]].High), e
	case word == "trial":
		genuine, e := forge.Genuine(d.Dossier)
		return []string{1: "yes", 2: "no", 3: "open"}[genuine[n[0]]], e
	}
	lines := d.Edition.Slabs[n[0]].Lines
	if n[1] < 0 || n[1] >= len(lines) {
		return "", api.ErrAbsent
	}
	signs, _ := edition.Signs(lines[n[1]])
	switch word {
	case "stone":
		return edition.Stone(signs)
	case "words":
		return edition.Words(signs)
	}
	many, e := gap.Count(d.Lexicon, plainRow(signs))
	return spoken(many), e
}

func plainRow(signs []api.Sign) []api.Cell {
	var row []api.Cell
	for _, s := range signs {
		if strings.ContainsRune("\x01\x05\x06\x08", rune(s.Kind)) {
			row = append(row, api.Cell{Letters: string(rune(s.Letter))})
		}
		if s.Kind == api.SignDoubt || s.Kind == api.SignLost {
			row = append(row, api.Cell{})
		}
		if s.Kind == api.SignGap {
			row = append(row, api.Cell{Gap: true, Width: to(0, 1000)})
		}
	}
	return row
}

// plainRun returns the desk after a book, and the replies.
func plainRun(d api.Desk, book string) (api.Desk, string) {
	replies := ""
	for _, line := range linesOf(book) {
		var reply string
		d, reply = plainly(d, line)
		replies += reply + "\n"
	}
	return d, replies
}

// linesOf returns the lines of a book, or the replies to one.
func linesOf(book string) []string {
	list := strings.Split(book, "\n")
	return list[:len(list)-1]
}

// bookOf returns the book of some lines.
func bookOf(lines ...string) string {
	if len(lines) == 0 {
		return ""
	}
	return strings.Join(lines, "\n") + "\n"
}

// plainReport returns the report on a desk, from what the layers say of it.
func plainReport(d api.Desk) string {
	text := ""
	genuine, _ := forge.Genuine(d.Dossier)
	for s, slab := range d.Edition.Slabs {
		years, _ := plainAnswer(d, "years", []int{s})
		trial, _ := plainAnswer(d, "trial", []int{s})
		text += "stone " + spoken(s) + " " + spoken(slab.Numbers...) + " " + years + " " + trial + "\n"
		for l := range slab.Lines {
			if words, _ := plainAnswer(d, "words", []int{s, l}); genuine[s] != api.No {
				text += " " + words + "\n"
			}
		}
	}
	for m := range d.Roll.Men {
		life, _ := plainAnswer(d, "life", []int{m})
		text += "man " + spoken(m) + " " + life + "\n"
	}
	return text + "end " + spoken(len(d.Roll.Records)) + "\n"
}

// near returns a span with a number in it.
func near(r *rand.Rand, n, width int) api.Span { return to(n-r.Intn(width+1), n+r.Intn(width+1)) }

// seen is what truly was so: a man held an office in a town and in a year.
type seen struct{ man, office, town, year int }

// world is what truly was so: the year of each stone, and the first one of each era; when each man was born, and died, what he held, and who was whose child; the years of traits, which stones are forged, and when they were made.
type world struct {
	years, eras        []int
	born, died         []int
	seen               []seen
	kin                [][2]int
	first, last, known []int
	forged             []bool
	made               []int
}

// trueDesk returns a desk, and a world in which all that it says is so.
func trueDesk(r *rand.Rand) (api.Desk, *world) {
	d, w := api.Desk{}, &world{}
	for range 1 + r.Intn(4) {
		w.years = append(w.years, 100+r.Intn(80))
	}
	trueDating(r, &d, w)
	trueRoll(r, &d, w)
	trueDossier(r, &d, w)
	anyEdition(r, &d)
	d.Lexicon = lexicon([]string{"A", "AB", "BA", "ABBA", "B"}[r.Intn(3):]...)
	return d, w
}

func trueDating(r *rand.Rand, d *api.Desk, w *world) {
	d.Dating.Stones = len(w.years)
	for range r.Intn(2) {
		era := 20 + r.Intn(60)
		w.eras = append(w.eras, era)
		d.Dating.Eras = append(d.Dating.Eras, near(r, era, 3))
	}
	for range r.Intn(5) {
		d.Dating.Notes = append(d.Dating.Notes, trueNote(r, w))
	}
}

// trueNote returns a note that is right.
func trueNote(r *rand.Rand, w *world) api.Note {
	stone, other := r.Intn(len(w.years)), r.Intn(len(w.years))
	year := w.years[stone]
	switch {
	case r.Intn(5) == 0:
		list := []int{year - r.Intn(20), year, year + r.Intn(20)}
		return api.Note{Kind: api.NoteYears, Stone: stone, Years: slices.Compact(list)}
	case r.Intn(3) == 0 && len(w.eras) > 0:
		return api.Note{Kind: api.NoteEra, Stone: stone, Span: near(r, year-w.eras[0]+1, 10)}
	case r.Intn(2) == 0 && stone != other:
		return api.Note{Kind: api.NoteAfter, Stone: stone, Other: other, Span: near(r, year-w.years[other], 15)}
	}
	return api.Note{Kind: api.NoteSpan, Stone: stone, Span: near(r, year, 25)}
}

func trueRoll(r *rand.Rand, d *api.Desk, w *world) {
	d.Roll = api.Roll{Life: 60 + r.Intn(41), Parents: to(12+r.Intn(5), 50+r.Intn(20))}
	for range r.Intn(4) {
		d.Roll.Offices = append(d.Roll.Offices, api.Office{Age: r.Intn(30), Gap: r.Intn(5), Again: 1 + r.Intn(6)})
	}
	towns := 1 + r.Intn(3)
	for a := range towns {
		d.Roll.Far = append(d.Roll.Far, make([]bool, towns))
		for b := range a {
			far := r.Intn(2) == 0
			d.Roll.Far[a][b], d.Roll.Far[b][a] = far, far
		}
	}
	for range 1 + r.Intn(3) {
		born := 50 + r.Intn(80)
		died := born + r.Intn(d.Roll.Life+1)
		w.born, w.died = append(w.born, born), append(w.died, died)
		d.Roll.Men = append(d.Roll.Men, api.Man{Name: r.Intn(2), Born: near(r, born, 30), Died: near(r, died, 30)})
	}
	for range r.Intn(4) {
		x := seen{r.Intn(len(w.born)), r.Intn(len(d.Roll.Offices)+1) - 1, r.Intn(towns), 100 + r.Intn(80)}
		if w.maySee(d.Roll, x) {
			w.seen = append(w.seen, x)
			d.Roll.Records = append(d.Roll.Records, api.Record{Man: x.man, Office: x.office, Town: x.town, When: near(r, x.year, 9)})
		}
	}
}

// maySee reports whether a man may truly have held that, too.
func (w *world) maySee(x api.Roll, one seen) bool {
	age := one.year - w.born[one.man]
	if age < 0 || one.year > w.died[one.man] || one.office >= 0 && age < x.Offices[one.office].Age {
		return false
	}
	for _, two := range w.seen {
		if two.man != one.man {
			continue
		}
		if two.year == one.year && x.Far[one.town][two.town] {
			return false
		}
		low, high := one, two
		if low.office > high.office {
			low, high = two, one
		}
		apart := max(one.year-two.year, two.year-one.year)
		switch {
		case low.office < 0:
		case low.office < high.office && high.year-low.year < x.Offices[high.office].Gap:
			return false
		case low.office == high.office && apart != 0 && apart < x.Offices[low.office].Again:
			return false
		}
	}
	return true
}

// mayBear reports whether a man may truly have had this child.
func (w *world) mayBear(x api.Roll, parent, child int) bool {
	age := w.born[child] - w.born[parent]
	return parent != child && age >= x.Parents.Low && age <= x.Parents.High && w.born[child] <= w.died[parent]+1
}

func trueDossier(r *rand.Rand, d *api.Desk, w *world) {
	d.Dossier = api.Dossier{Begin: 1350 + r.Intn(50), Shops: r.Intn(4)}
	for range r.Intn(5) {
		first, known := 70+r.Intn(100), 1380+r.Intn(200)
		last := first + r.Intn(90)
		w.first, w.last, w.known = append(w.first, first), append(w.last, last), append(w.known, known)
		d.Dossier.Traits = append(d.Dossier.Traits, api.Trait{From: near(r, first, 10), Until: near(r, last, 10), Known: near(r, known, 30)})
	}
	var sellers []int
	for s, year := range w.years {
		found := 1450 + r.Intn(200)
		c := api.Case{Cut: near(r, year, 30), Seen: near(r, found, 20), Shop: r.Intn(d.Dossier.Shops+1) - 1}
		w.forged = append(w.forged, c.Shop >= 0 && r.Intn(2) == 0)
		w.made = append(w.made, d.Dossier.Begin+r.Intn(found-d.Dossier.Begin+1))
		if w.forged[s] {
			sellers = append(sellers, c.Shop)
		}
		for trait := range w.first {
			if w.shown(s, trait) && (w.forged[s] || r.Intn(3) == 0) {
				c.Shows = append(c.Shows, trait)
			}
		}
		d.Dossier.Cases = append(d.Dossier.Cases, c)
	}
	slices.Sort(sellers)
	d.Dossier.Most = len(slices.Compact(sellers)) + r.Intn(2)
}

// shown reports whether a stone may truly show a trait.
func (w *world) shown(stone, trait int) bool {
	if w.forged[stone] {
		return w.made[stone] >= w.known[trait]
	}
	return w.first[trait] <= w.years[stone] && w.years[stone] <= w.last[trait]
}

func anyEdition(r *rand.Rand, d *api.Desk) {
	d.Edition.Books = 1 + r.Intn(3)
	numbers := make([][]int, d.Edition.Books)
	for book := range numbers {
		numbers[book] = r.Perm(9)
	}
	for range d.Dating.Stones {
		var s api.Slab
		for book := range numbers {
			s.Numbers = append(s.Numbers, numbers[book][0]) // one of them may be 0: the slab is not there
			numbers[book] = numbers[book][1:]
		}
		if slices.Max(s.Numbers) == 0 {
			s.Numbers[0] = 999
		}
		for range 1 + r.Intn(3) {
			s.Lines = append(s.Lines, anyPrinted(r, 1+r.Intn(7)))
		}
		d.Edition.Slabs = append(d.Edition.Slabs, s)
	}
}

// anyPrinted returns a line of so many signs at most, as it is printed.
func anyPrinted(r *rand.Rand, most int) string {
	for {
		var l []api.Sign
		for range most {
			s := api.Sign{Kind: 1 + r.Intn(10), Letter: "AB"[r.Intn(2)]}
			if r.Intn(2) == 0 {
				s.Kind = api.SignSure
			}
			if r.Intn(8) == 0 {
				s.Kind = api.SignBlank
			}
			switch s.Kind {
			case api.SignGap, api.SignBlank, api.SignFree:
				s.Letter = 0
			case api.SignLost:
				s.Letter = "AB."[r.Intn(3)]
			}
			l = append(l, s)
		}
		if text, e := edition.Print(l); e == api.OK {
			return text
		}
	}
}
