package editor

import (
	"math/rand"
	"reflect"
	"slices"
	"strconv"
	"strings"
	"testing"

	"cippus/api"
	"cippus/career"
	"cippus/date"
	"cippus/edition"
	"cippus/forge"
	"cippus/gap"
)

// someOf returns one of so many, or now and then just beyond.
func someOf(r *rand.Rand, many int) int {
	if r.Intn(16) == 0 {
		return []int{-1, many}[r.Intn(2)]
	}
	return r.Intn(max(many, 1))
}

// anyLine returns a line most of which is as it may be on a desk.
func anyLine(r *rand.Rand, d api.Desk, w *world) string {
	words := []string{"fix", "fix", "renumber", "span", "after", "held", "held", "kin", "shows", "shows", "claim", "find", "stone", "words", "years", "life", "trial", "why", "fill"}
	word := words[r.Intn(len(words))]
	stones, men := d.Dating.Stones, len(d.Roll.Men)
	stone := someOf(r, stones)
	year := 100 + r.Intn(80)
	if stone >= 0 && stone < stones {
		year = w.years[stone]
	}
	var n []int
	switch word {
	case "fix", "find":
		book := someOf(r, d.Edition.Books)
		number := r.Intn(9)
		if stone >= 0 && stone < stones && book >= 0 && book < d.Edition.Books {
			number = d.Edition.Slabs[stone].Numbers[book]
		}
		n = []int{book, number}
		if word == "fix" {
			from := r.Intn(3)
			n = append(n, someOf(r, 2), from, from+r.Intn(4)-r.Intn(2))
		}
	case "span":
		s := near(r, year+r.Intn(30)-15, 20)
		n = []int{stone, s.Low, s.High + 2 - r.Intn(9)/8*50}
	case "after":
		s := near(r, r.Intn(40)-20, 40)
		n = []int{stone, someOf(r, stones), s.Low, s.High}
	case "held":
		n = []int{someOf(r, men), someOf(r, len(d.Roll.Offices)+1) - 1, someOf(r, len(d.Roll.Far)), stone}
	case "kin":
		n = []int{someOf(r, men), someOf(r, men)}
	case "shows":
		n = []int{stone, someOf(r, len(d.Dossier.Traits))}
	case "stone", "words", "fill":
		n = []int{stone, someOf(r, 2)}
	case "life":
		n = []int{someOf(r, men)}
	case "claim", "years", "trial", "why":
		n = []int{stone}
	}
	return distorted(r, lineOf(r, word, n))
}

// lineOf returns the line of a word and its numbers.
func lineOf(r *rand.Rand, word string, n []int) string {
	line := strings.TrimSuffix(word+" "+spoken(n...), " ")
	if word != "fix" {
		return line
	}
	if r.Intn(2) == 0 {
		return line + " " + anyPrinted(r, 1+r.Intn(3))
	}
	return line + " " + []string{"", "", "[", "A ", "A B", "[---]"}[r.Intn(6)]
}

// distorted returns a line that now and then is not as it has to be.
func distorted(r *rand.Rand, line string) string {
	if r.Intn(25) > 0 {
		return line
	}
	at := r.Intn(len(line) + 1)
	return line[:at] + []string{" ", "0", "-", "x", ""}[r.Intn(5)] + line[min(at+r.Intn(2), len(line)):]
}

// anyBook returns some lines for a desk.
func anyBook(r *rand.Rand, d api.Desk, w *world) []string {
	var list []string
	for range r.Intn(api.MaxTasks + 1) {
		list = append(list, anyLine(r, d, w))
	}
	return list
}

// ran returns the desk after a book, and its replies; it has to have no error.
func ran(t *testing.T, d api.Desk, lines ...string) (api.Desk, []string) {
	t.Helper()
	text, e := Run(d, bookOf(lines...))
	next, f := Keep(d, bookOf(lines...))
	if e != api.OK || f != api.OK {
		t.Fatal(d, lines, e, f)
	}
	return next, linesOf(text)
}

func wordOf(line string) string {
	word, _, _ := strings.Cut(line, " ")
	return word
}

func isError(reply string) bool { return strings.HasPrefix(reply, "error ") }

// counts has how often something was so.
type counts map[string]int

// few returns what was not so often enough.
func (c counts) few(n int, what ...string) []string {
	var list []string
	for _, word := range what {
		if c[word] < n {
			list = append(list, word+" "+strconv.Itoa(c[word]))
		}
	}
	return list
}

// TestPlainlyP10_1P10_2P10_3 compares all replies, desks and reports with those that the table of the chapter gives, line by line.
func TestPlainlyP10_1P10_2P10_3(t *testing.T) {
	r := rand.New(rand.NewSource(1))
	told := counts{}
	for i := range 3000 {
		d, w := trueDesk(r)
		if e := Check(d); e != api.OK {
			t.Fatal(i, d, e)
		}
		lines := anyBook(r, d, w)
		want, text := plainRun(d, bookOf(lines...))
		next, got := ran(t, d, lines...)
		if bookOf(got...) != text || !equal(next, want) {
			t.Fatalf("%d: %v %q: %q %v, not %q %v", i, d, lines, got, next, text, want)
		}
		report, e := Report(d, bookOf(lines...))
		if report != plainReport(want) || e != api.OK {
			t.Fatalf("%d: %v %q: %q %v, not %q", i, d, lines, report, e, plainReport(want))
		}
		for k, reply := range got {
			sort := "told"
			if isError(reply) {
				sort = reply
			}
			told[wordOf(lines[k])+": "+sort]++
		}
		told[wordOf(report)]++
	}
	var rare []string
	for word := range forms {
		rare = append(rare, told.few(100, word+": told")...)
	}
	rare = append(rare, told.few(8, "fix: error 4", "fix: error 5")...)
	rare = append(rare, told.few(20, "fix: error 1", "fix: error 2", "fix: error 3", "fix: error 7", "fix: error 9", "fix: error 11", "renumber: error 6", "span: error 3", "span: error 5", "span: error 9",
		"after: error 2", "after: error 3", "after: error 9", "held: error 3", "held: error 9", "kin: error 3", "kin: error 4", "kin: error 9", "shows: error 3", "shows: error 4", "shows: error 9", "claim: error 3", "claim: error 9",
		"find: error 1", "find: error 3", "find: error 11", "stone: error 3", "words: error 3", "years: error 3", "life: error 3", "trial: error 3", "why: error 3", "why: error 11", "fill: error 3", "fill: error 7")...)
	if len(rare) > 0 {
		t.Fatal("not enough of each sort:", rare, told)
	}
}

// TestToldP10_4 asks everything of a desk, and tests each reply, and the report, with what the layers say.
func TestToldP10_4(t *testing.T) {
	r := rand.New(rand.NewSource(4))
	told := counts{}
	for i := range 400 {
		d, w := trueDesk(r)
		lines := anyBook(r, d, w)
		next, _ := ran(t, d, lines...)
		years, e1 := date.Years(next.Dating)
		born, died, e2 := career.Lives(next.Roll)
		genuine, e3 := forge.Genuine(next.Dossier)
		if e1 != api.OK || e2 != api.OK || e3 != api.OK {
			t.Fatal(i, next, e1, e2, e3)
		}
		report := ""
		ask := func(line, want string, e api.Errno) {
			t.Helper()
			if e != api.OK {
				want = "error " + strconv.Itoa(int(e))
			}
			got, f := Run(next, line+"\n")
			if got != want+"\n" || f != api.OK {
				t.Fatal(i, next, line, got, f, want)
			}
			told[wordOf(line)]++
		}
		for s, slab := range next.Edition.Slabs {
			stone := strconv.Itoa(s)
			verdict := []string{"", "yes", "no", "open"}[genuine[s]]
			ask("years "+stone, spoken(years[s].Low, years[s].High), api.OK)
			ask("trial "+stone, verdict, api.OK)
			first, second, e := forge.Why(next.Dossier, s)
			ask("why "+stone, spoken(first, second), e)
			report += "stone " + stone + " " + spoken(slab.Numbers...) + " " + spoken(years[s].Low, years[s].High) + " " + verdict + "\n"
			for book, number := range slab.Numbers {
				found, e := edition.Find(next.Edition, book, number)
				ask("find "+spoken(book, number), strconv.Itoa(found), e)
			}
			for l, text := range slab.Lines {
				signs, _ := edition.Signs(text)
				onStone, e := edition.Stone(signs)
				ask("stone "+spoken(s, l), onStone, e)
				read, e := edition.Words(signs)
				ask("words "+spoken(s, l), read, e)
				many, e := gap.Count(next.Lexicon, plainRow(signs))
				ask("fill "+spoken(s, l), strconv.Itoa(many), e)
				if verdict != "no" {
					report += " " + read + "\n"
				}
			}
			told["trial: "+verdict]++
		}
		for m := range next.Roll.Men {
			life := spoken(born[m].Low, born[m].High, died[m].Low, died[m].High)
			ask("life "+strconv.Itoa(m), life, api.OK)
			report += "man " + strconv.Itoa(m) + " " + life + "\n"
		}
		report += "end " + strconv.Itoa(len(next.Roll.Records)) + "\n"
		after, e := Report(next, "")
		whole, f := Report(d, bookOf(lines...))
		if after != report || whole != report || e != api.OK || f != api.OK {
			t.Fatal(i, next, after, whole, e, f, report)
		}
	}
	if rare := told.few(50, slices.Concat(asks, []string{"trial: yes", "trial: no", "trial: open"})...); rare != nil {
		t.Fatal("not enough of each sort:", rare)
	}
}

// findable returns how all slabs are found in the books of an edition.
func findable(d api.Edition) map[[2]int]int {
	found := map[[2]int]int{}
	for book := range d.Books {
		for number := 1; number <= api.MaxNumber; number++ {
			if slab, e := edition.Find(d, book, number); e == api.OK {
				found[[2]int{book, number}] = slab
			}
			if number == 12 {
				number = api.MaxNumber - 1
			}
		}
	}
	return found
}

func TestSafeP10_5(t *testing.T) {
	r := rand.New(rand.NewSource(5))
	told := counts{}
	for i := range 1000 {
		d, w := trueDesk(r)
		old := findable(d.Edition)
		for _, line := range anyBook(r, d, w) {
			genuine, _ := forge.Genuine(d.Dossier)
			next, got := ran(t, d, line)
			if e := Check(next); e != api.OK {
				t.Fatal(i, d, line, next, e)
			}
			for s, verdict := range genuine {
				if verdict == api.No && !slices.Equal(next.Edition.Slabs[s].Lines, d.Edition.Slabs[s].Lines) {
					t.Fatal(i, d, line, next)
				}
			}
			if word, n, _, right := plainNumbers(line); right && word == "held" && isStone(d, n[3]) && genuine[n[3]] == api.No {
				if told["held by a convicted one"]++; got[0] != "error 9" || len(next.Roll.Records) != len(d.Roll.Records) {
					t.Fatal(i, d, line, next, got)
				}
			} else if right && word == "fix" && got[0] == "error 9" {
				told["fix of a convicted one"]++
			} else if right && (word == "fix" || word == "held") && got[0] == "ok" {
				told[word]++
			}
			d = next
			if found := findable(d.Edition); len(found) < len(old) {
				t.Fatal(i, d, old, found)
			} else {
				for number, slab := range old {
					if found[number] != slab {
						t.Fatal(i, d, old, found)
					}
				}
			}
		}
	}
	if rare := told.few(15, "held by a convicted one", "fix of a convicted one", "fix", "held"); rare != nil {
		t.Fatal("not enough of each sort:", rare)
	}
}

// TestRefusedP10_6 leaves out the lines that are refused.
func TestRefusedP10_6(t *testing.T) {
	r := rand.New(rand.NewSource(6))
	left, changed := 0, 0
	for i := range 500 {
		d, w := trueDesk(r)
		lines := anyBook(r, d, w)
		next, got := ran(t, d, lines...)
		var others, want []string
		for k, line := range lines {
			if !isError(got[k]) {
				others, want = append(others, line), append(want, got[k])
				continue
			}
			left++
			before, _ := ran(t, d, lines[:k]...)
			if after, _ := ran(t, before, line); !equal(after, before) {
				t.Fatal(i, d, lines[:k], line, before, after)
			}
		}
		same, replies := ran(t, d, others...)
		if !slices.Equal(replies, want) || !equal(same, next) {
			t.Fatal(i, d, lines, got, others, replies)
		}
		if !equal(next, d) {
			changed++
		}
	}
	if min(left/5, changed) < 200 {
		t.Fatal("not enough of each sort:", left, changed)
	}
}

// TestOneBookP10_7 cuts books between any two lines.
func TestOneBookP10_7(t *testing.T) {
	r := rand.New(rand.NewSource(7))
	cut := 0
	for i := range 150 {
		d, w := trueDesk(r)
		lines := anyBook(r, d, w)
		whole, got := ran(t, d, lines...)
		report, _ := Report(d, bookOf(lines...))
		for k := range len(lines) + 1 {
			middle, first := ran(t, d, lines[:k]...)
			last, second := ran(t, middle, lines[k:]...)
			rest, e := Report(middle, bookOf(lines[k:]...))
			if !slices.Equal(slices.Concat(first, second), got) || !equal(last, whole) || rest != report || e != api.OK {
				t.Fatal(i, d, lines, k, got, first, second)
			}
			if !equal(middle, d) && !equal(middle, whole) {
				cut++
			}
		}
	}
	if cut < 500 {
		t.Fatal("too few are cut between changes:", cut)
	}
}

// TestAskingP10_8 leaves out the lines that ask, and asks once more.
func TestAskingP10_8(t *testing.T) {
	r := rand.New(rand.NewSource(8))
	asked := 0
	for i := range 500 {
		d, w := trueDesk(r)
		lines := anyBook(r, d, w)
		next, got := ran(t, d, lines...)
		var others, want []string
		for k, line := range lines {
			if slices.Contains(asks, wordOf(line)) {
				asked++
				continue
			}
			others, want = append(others, line), append(want, got[k])
		}
		same, replies := ran(t, d, others...)
		if !slices.Equal(replies, want) || !equal(same, next) {
			t.Fatal(i, d, lines, got, others, replies)
		}
		questions := slices.DeleteFunc(slices.Clone(lines), func(line string) bool { return !slices.Contains(asks, wordOf(line)) })
		if after, _ := ran(t, next, questions...); !equal(after, next) {
			t.Fatal(i, next, questions, after)
		}
	}
	if asked < 2000 {
		t.Fatal("too few lines ask:", asked)
	}
}

// TestAnyOrderP10_8 makes changes of different lines of stones in several orders.
func TestAnyOrderP10_8(t *testing.T) {
	r := rand.New(rand.NewSource(88))
	several, refused := 0, 0
	for i := range 500 {
		d, _ := trueDesk(r)
		var lines []string
		for _, slab := range d.Edition.Slabs {
			for l := range slab.Lines {
				book := r.Intn(d.Edition.Books)
				from := r.Intn(2)
				lines = append(lines, lineOf(r, "fix", []int{book, slab.Numbers[book], l, from, from + r.Intn(3)}))
			}
		}
		next, got := ran(t, d, lines...)
		reply := map[string]string{}
		for k, line := range lines {
			reply[line] = got[k]
			if got[k] != "ok" {
				refused++
			}
		}
		for range 4 {
			r.Shuffle(len(lines), func(i, k int) { lines[i], lines[k] = lines[k], lines[i] })
			same, replies := ran(t, d, lines...)
			if !equal(same, next) {
				t.Fatal(i, d, lines, same, next)
			}
			for k, line := range lines {
				if replies[k] != reply[line] {
					t.Fatal(i, d, lines, replies, reply)
				}
			}
		}
		if strings.Count(bookOf(got...), "ok") > 2 {
			several++
		}
	}
	if several < 100 || refused < 300 {
		t.Fatal("not enough of each sort:", several, refused)
	}
}

// numbersOf returns the numbers of a reply.
func numbersOf(t *testing.T, reply string) []int {
	t.Helper()
	var list []int
	for _, word := range strings.Fields(reply) {
		n, err := strconv.Atoi(word)
		if err != nil {
			t.Fatal(reply)
		}
		list = append(list, n)
	}
	return list
}

// inside reports whether each of the spans of a list of numbers is within that of another one.
func inside(inner, outer []int) bool {
	for i := 0; i < len(outer); i += 2 {
		if inner[i] < outer[i] || inner[i+1] > outer[i+1] || inner[i] > inner[i+1] {
			return false
		}
	}
	return len(inner) == len(outer)
}

// state is what is told of a desk: the years of stones and men, and verdicts.
type state struct {
	years, lives [][]int
	trials       []string
}

func tell(t *testing.T, d api.Desk) (s state) {
	t.Helper()
	var lines []string
	for i := range d.Dating.Stones {
		lines = append(lines, "years "+strconv.Itoa(i), "trial "+strconv.Itoa(i))
	}
	for i := range d.Roll.Men {
		lines = append(lines, "life "+strconv.Itoa(i))
	}
	_, got := ran(t, d, lines...)
	for i, reply := range got {
		switch wordOf(lines[i]) {
		case "years":
			s.years = append(s.years, numbersOf(t, reply))
		case "trial":
			s.trials = append(s.trials, reply)
		default:
			s.lives = append(s.lives, numbersOf(t, reply))
		}
	}
	return s
}

// narrower reports whether no years are wider than before, and no verdict changes that was not open.
func (s state) narrower(before state) bool {
	for i, years := range before.years {
		if !inside(s.years[i], years) || before.trials[i] != "open" && s.trials[i] != before.trials[i] {
			return false
		}
	}
	for i, years := range before.lives {
		if !inside(s.lives[i], years) {
			return false
		}
	}
	return true
}

func TestNarrowerP10_9(t *testing.T) {
	r := rand.New(rand.NewSource(9))
	told := counts{}
	for i := range 300 {
		d, w := trueDesk(r)
		before := tell(t, d)
		for _, line := range anyBook(r, d, w) {
			next, _ := ran(t, d, line)
			after := tell(t, next)
			if !after.narrower(before) {
				t.Fatal(i, d, line, before, after)
			}
			if !reflect.DeepEqual(after.years, before.years) {
				told["years"]++
			}
			if !reflect.DeepEqual(after.lives, before.lives) {
				told["lives"]++
			}
			if !slices.Equal(after.trials, before.trials) {
				told["trials"]++
			}
			d, before = next, after
		}
	}
	if rare := told.few(20, "years", "lives", "trials"); rare != nil {
		t.Fatal("not enough of each sort:", rare)
	}
}

// replayed returns the desk that is read from what was written from one.
func replayed(t *testing.T, d api.Desk) api.Desk {
	t.Helper()
	wrote := func(text string, e api.Errno) string {
		t.Helper()
		if e != api.OK {
			t.Fatal(d, e)
		}
		return text
	}
	var e [4]api.Errno
	c := api.Desk{Lexicon: d.Lexicon}
	c.Edition, _, e[0] = edition.Read(wrote(edition.Write(d.Edition)))
	c.Dating, _, e[1] = date.Read(wrote(date.Write(d.Dating)))
	c.Roll, _, e[2] = career.Read(wrote(career.Write(d.Roll)))
	c.Dossier, _, e[3] = forge.Read(wrote(forge.Write(d.Dossier)))
	if e != [4]api.Errno{} {
		t.Fatal(d, e)
	}
	return c
}

func TestReplayedP10_10(t *testing.T) {
	r := rand.New(rand.NewSource(10))
	changed := 0
	for i := range 500 {
		d, w := trueDesk(r)
		lines := anyBook(r, d, w)
		next, got := ran(t, d, lines...)
		other, replies := ran(t, replayed(t, d), lines...)
		report, e := Report(d, bookOf(lines...))
		same, f := Report(replayed(t, d), bookOf(lines...))
		if !slices.Equal(got, replies) || !equal(next, other) || !equal(next, replayed(t, next)) || report != same || e != api.OK || f != api.OK {
			t.Fatal(i, d, lines, got, replies, next, other)
		}
		if !equal(next, d) {
			changed++
		}
	}
	if changed < 300 {
		t.Fatal("too few desks are changed:", changed)
	}
}

// trueLine returns a line that says what truly is so, and what becomes of the world if it is put down.
func trueLine(r *rand.Rand, d api.Desk, w *world) (string, func()) {
	stone, other := r.Intn(len(w.years)), r.Intn(len(w.years))
	year := w.years[stone]
	switch r.Intn(6) {
	case 0:
		s := near(r, year, 12)
		return "span " + spoken(stone, s.Low, s.High), func() {}
	case 1:
		if s := near(r, year-w.years[other], 12); stone != other {
			return "after " + spoken(stone, other, s.Low, s.High), func() {}
		}
	case 2:
		one := seen{r.Intn(len(w.born)), r.Intn(len(d.Roll.Offices)+1) - 1, r.Intn(len(d.Roll.Far)), year}
		if !w.forged[stone] && w.maySee(d.Roll, one) {
			return "held " + spoken(one.man, one.office, one.town, stone), func() { w.seen = append(w.seen, one) }
		}
	case 3:
		parent, child := r.Intn(len(w.born)), r.Intn(len(w.born))
		if w.mayBear(d.Roll, parent, child) {
			return "kin " + spoken(parent, child), func() {}
		}
	case 4:
		if trait := r.Intn(len(w.first) + 1); trait < len(w.first) && w.shown(stone, trait) {
			return "shows " + spoken(stone, trait), func() {}
		}
	case 5:
		if !w.forged[stone] {
			return "claim " + spoken(stone), func() {}
		}
	}
	return trueLine(r, d, w)
}

// has reports whether a number is within the span that begins at a place of a list.
func has(list []int, at, n int) bool { return list[at] <= n && n <= list[at+1] }

// TestYearsP10_11 has worlds, and lines that say what is so in them.
func TestYearsP10_11(t *testing.T) {
	r := rand.New(rand.NewSource(11))
	told := counts{}
	for i := range 400 {
		d, w := trueDesk(r)
		for range 20 {
			line, put := trueLine(r, d, w)
			next, got := ran(t, d, line)
			switch {
			case got[0] == "ok":
				put()
				told[wordOf(line)]++
			case got[0] != "error 6" && (got[0] != "error 4" || wordOf(line) != "shows"):
				t.Fatal(i, d, w, line, got)
			}
			d = next
			s := tell(t, d)
			for stone, year := range w.years {
				told["trial: "+s.trials[stone]]++
				wrong := map[bool]string{true: "yes", false: "no"}[w.forged[stone]]
				if !has(s.years[stone], 0, year) || s.trials[stone] == wrong {
					t.Fatal(i, d, w, line, s, stone)
				}
				if _, reply := ran(t, d, "why "+strconv.Itoa(stone)); !w.forged[stone] && reply[0] != "error 11" {
					t.Fatal(i, d, w, line, stone, reply)
				}
			}
			for man := range w.born {
				if !has(s.lives[man], 0, w.born[man]) || !has(s.lives[man], 2, w.died[man]) {
					t.Fatal(i, d, w, line, s, man)
				}
			}
		}
	}
	if rare := told.few(100, "span", "after", "held", "kin", "shows", "claim", "trial: yes", "trial: no", "trial: open"); rare != nil {
		t.Fatal("not enough of each sort:", rare)
	}
}

// restored returns a row of squares and gaps, and one of the words that restore it.
func restored(r *rand.Rand, x api.Lexicon) ([]api.Cell, api.Filling) {
	var f api.Filling
	letters := ""
	for range 1 + r.Intn(4) {
		word := r.Intn(len(x.Words))
		f.Words = append(f.Words, word)
		letters += x.Words[word].Text
	}
	var row []api.Cell
	for letters != "" {
		many := 1
		switch gaps := len(f.Fills); {
		case r.Intn(8) == 0 && gaps < api.MaxGaps:
			many = r.Intn(min(len(letters), 4) + 1)
			f.Fills = append(f.Fills, many)
			row = append(row, api.Cell{Gap: true, Width: near(r, many, many)})
		case r.Intn(4) == 0:
			row = append(row, api.Cell{Letters: doubtful(letters[:1])})
		case r.Intn(4) == 0:
			row = append(row, api.Cell{})
		default:
			row = append(row, api.Cell{Letters: letters[:1]})
		}
		letters = letters[many:]
	}
	return row, f
}

// doubtful returns a letter and another one, ascending.
func doubtful(letter string) string {
	if letter < "K" {
		return letter + "K"
	}
	return "E" + letter
}

// shown returns for each letter of a restoration whether the row shows it for sure.
func shown(row []api.Cell, f api.Filling) (list []bool) {
	gaps := 0
	for _, c := range row {
		if !c.Gap {
			list = append(list, len(c.Letters) == 1)
			continue
		}
		list = append(list, make([]bool, f.Fills[gaps])...)
		gaps++
	}
	return list
}

// TestPrintedT9 prints restorations as lines of an edition, and puts them in.
func TestPrintedT9(t *testing.T) {
	r := rand.New(rand.NewSource(99))
	x := lexicon("A", "AB", "CAB", "BAC", "DADA", "Z")
	told := counts{}
	for i := range 6000 {
		row, f := restored(r, x)
		text, e := gap.Print(x, row, f)
		if e != api.OK {
			t.Fatal(i, row, f, e)
		}
		signs, e := edition.Signs(text)
		if e != api.OK {
			t.Fatal(i, row, f, text, e)
		}
		sure, words, onStone := shown(row, f), "", ""
		for _, w := range f.Words {
			words += " " + x.Words[w].Text
		}
		words = words[1:]
		letters := slices.DeleteFunc(slices.Clone(signs), func(s api.Sign) bool { return s.Kind == api.SignBlank })
		for k, letter := range strings.ReplaceAll(words, " ", "") {
			want := api.Sign{Kind: api.SignLost, Letter: byte(letter)}
			if sure[k] {
				want.Kind = api.SignSure
				onStone += string(letter)
				told["sure"]++
			} else {
				onStone += "."
				told["lost"]++
			}
			if letters[k] != want {
				t.Fatal(i, row, f, text, signs, k)
			}
		}
		read, e1 := edition.Words(signs)
		there, e2 := edition.Stone(signs)
		if len(letters) != len(sure) || read != words || there != onStone || e1 != api.OK || e2 != api.OK {
			t.Fatal(i, row, f, text, read, there, words, onStone)
		}
		d := with(func(d *api.Desk) { d.Lexicon = x })
		whole, stone, at := "fix 1 2 0 0 4 ", 1, 0
		if i%2 == 0 {
			whole, stone, at = "fix 0 5 1 0 17 ", 0, 1
		}
		where := spoken(stone, at)
		next, got := ran(t, d, whole+text, "words "+where, "stone "+where, "fill "+where)
		if line := next.Edition.Slabs[stone].Lines[at]; !slices.Equal(got[:3], []string{"ok", words, onStone}) || line != text {
			t.Fatal(i, row, f, text, got, line)
		}
		if many := numbersOf(t, got[3]); many[0] < 1 { // it is one of its own fillings
			t.Fatal(i, row, f, text, got)
		}
		if strings.Contains(text, " ") {
			told["words"]++
		}
		if len(f.Fills) > 0 {
			told["gaps"]++
		}
	}
	if rare := told.few(1000, "sure", "lost", "words", "gaps"); rare != nil {
		t.Fatal("not enough of each sort:", rare)
	}
}
