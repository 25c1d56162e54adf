package edition

import (
	"math/rand"
	"regexp"
	"slices"
	"strings"

	"cippus/api"
)

// kinds has a letter for each kind of signs, in the order of the kinds.
const kinds = "sdlgavxebf"

// of is a line whose signs are each given by the letter of its kind and its own one.
func of(words string) []api.Sign {
	var l []api.Sign
	for _, word := range strings.Fields(words) {
		s := api.Sign{Kind: strings.IndexByte(kinds, word[0]) + 1}
		if len(word) > 1 {
			s.Letter = word[1]
		}
		l = append(l, s)
	}
	return l
}

// The line T of the chapter, and how it is printed.
const (
	lineT = "sA dR lM lA b l. l. sQ vV vE b xA sB aC eD f g"
	textT = "AR'[MA ..]Q(VE) {A}B<C>#D#_[---]"
)

// slab is a slab of lines.
func slab(numbers []int, lines ...string) api.Slab { return api.Slab{Numbers: numbers, Lines: lines} }

// example is the edition Z of the chapter.
func example() api.Edition {
	return api.Edition{Books: 2, Slabs: []api.Slab{slab([]int{5, 1}, "ARMA", textT), slab([]int{0, 2}, "CANO")}}
}

// with returns the edition Z with a change.
func with(change func(d *api.Edition)) api.Edition {
	d := example()
	change(&d)
	return d
}

// c is a change of the slab with the number 5 in the book 0.
func c(line, from, until int, text string) api.Change {
	return api.Change{Number: 5, Line: line, From: from, Until: until, Text: text}
}

// plainCheck returns the first error of a line, as the chapter says it.
func plainCheck(l []api.Sign) api.Errno {
	if len(l) < 1 {
		return api.ErrFew
	}
	if len(l) > 24 {
		return api.ErrMany
	}
	for i, s := range l {
		if s.Kind < 1 || s.Kind > 10 {
			return api.ErrSort
		}
		letters := "ABCDEFGHIJKLMNOPQRSTUVWXYZ"
		switch kinds[s.Kind-1] {
		case 'l':
			letters += "."
		case 'g', 'b', 'f':
			letters = "\x00"
		}
		if !strings.Contains(letters, string([]byte{s.Letter})) {
			return api.ErrShape
		}
		if s.Kind == 9 && (i == 0 || i == len(l)-1 || l[i-1].Kind == 9) {
			return api.ErrSequence
		}
		if s.Kind == 4 && i > 0 && l[i-1].Kind == 4 {
			return api.ErrTwice
		}
	}
	return api.OK
}

// plainPrint prints each sign between brackets of its own, takes out what is shut and opened again at once, and puts in the gaps at last.
func plainPrint(l []api.Sign) string {
	alone := []string{"A", "A'", "[A]", "~", "<A>", "(A)", "{A}", "#A#", " ", "_"}
	text := ""
	for _, s := range l {
		text += strings.ReplaceAll(alone[s.Kind-1], "A", string([]byte{s.Letter}))
	}
	for _, brackets := range []string{"][", "><", ")(", "}{", "##"} {
		text = strings.ReplaceAll(text, brackets, "")
		text = strings.ReplaceAll(text, brackets[:1]+" "+brackets[1:], " ")
	}
	return strings.ReplaceAll(text, "~", "[---]")
}

// What a text has: letters that stand alone, gaps, and pairs of brackets with all that is in them.
var (
	part  = `[A-Z]'?|_| |\[---\]|\[[A-Z.]+(?: [A-Z.]+)*\]|<[A-Z]+(?: [A-Z]+)*>|\([A-Z]+(?: [A-Z]+)*\)|\{[A-Z]+(?: [A-Z]+)*\}|#[A-Z]+(?: [A-Z]+)*#`
	parts = regexp.MustCompile(part)
	whole = regexp.MustCompile(`^(?:` + part + `)+$`)
)

// isPrinted reports whether a text is how some line is printed, by its parts.
func isPrinted(text string) bool {
	if !whole.MatchString(text) || strings.Contains(text, "\n") {
		return false
	}
	list := parts.FindAllString(text, -1)
	bracket := func(i int) string {
		if i >= len(list) || list[i] == "[---]" || !strings.ContainsAny(list[i][:1], "[<({#") {
			return ""
		}
		return list[i][:1]
	}
	many := 0
	for i, p := range list {
		next := bracket(i + 1)
		if i+2 < len(list) && list[i+1] == " " {
			next = bracket(i + 2)
		}
		switch {
		case p == " " && (i == 0 || i == len(list)-1 || list[i-1] == " "):
			return false
		case p == "[---]" && i > 0 && list[i-1] == p:
			return false
		case bracket(i) != "" && next == bracket(i):
			return false
		case bracket(i) != "":
			many += len(p) - 3
		}
		many++
	}
	return many <= 24
}

// plainStone and plainWords are told by what each kind of signs is there: A is its letter, a a small one.
func plainStone(l []api.Sign) string {
	return plainTold(l, []string{"A", "a", ".", "-", "", "", "A", "A", "", "_"})
}

func plainWords(l []api.Sign) string {
	return plainTold(l, []string{"A", "A", "A", "-", "A", "A", "", "A", " ", ""})
}

func plainTold(l []api.Sign, is []string) string {
	text := ""
	for _, s := range l {
		letter := string([]byte{s.Letter})
		text += strings.NewReplacer("A", letter, "a", strings.ToLower(letter)).Replace(is[s.Kind-1])
	}
	return text
}

func plainSquares(l []api.Sign) api.Span {
	var squares api.Span
	for _, s := range l {
		squares.Low += []int{1, 1, 1, 0, 0, 0, 1, 1, 0, 1}[s.Kind-1]
		squares.High += []int{1, 1, 1, 20, 0, 0, 1, 1, 0, 1}[s.Kind-1]
	}
	return squares
}

// plainClash reports whether two changes of the same line clash, sign by sign.
func plainClash(a, b api.Change) bool {
	for sign := range 30 {
		if a.From <= sign && sign < a.Until && b.From <= sign && sign < b.Until {
			return true
		}
	}
	putsIn := func(c api.Change) bool { return c.From == c.Until }
	if putsIn(a) && putsIn(b) && a.From == b.From {
		return true
	}
	between := func(a, b api.Change) bool { return putsIn(a) && b.From < a.From && a.From < b.Until }
	return between(a, b) || between(b, a)
}

// plainError returns the first error of a change, and the slab that it names, as the chapter says it; those are the changes before.
func plainError(d api.Edition, c api.Change, before []api.Change) (slab int, e api.Errno) {
	if c.Book < 0 || c.Book >= d.Books {
		return 0, api.ErrAbsent
	}
	slab = slices.IndexFunc(d.Slabs, func(s api.Slab) bool { return c.Number != 0 && s.Numbers[c.Book] == c.Number })
	if slab < 0 {
		return 0, api.ErrNone
	}
	if c.Line < 0 || c.Line >= len(d.Slabs[slab].Lines) {
		return 0, api.ErrAbsent
	}
	if l, _ := Signs(d.Slabs[slab].Lines[c.Line]); c.From < 0 || c.From > c.Until || c.Until > len(l) {
		return 0, api.ErrBounds
	}
	if _, e := Signs(c.Text); c.Text != "" && e != api.OK {
		return 0, e
	}
	if c.Text == "" && c.From == c.Until {
		return 0, api.ErrFew
	}
	for _, b := range before {
		if s, _ := plainError(d, b, nil); s == slab && b.Line == c.Line && plainClash(b, c) {
			return 0, api.ErrClash
		}
	}
	return slab, api.OK
}

// plainApply makes changes by going through each line from its first sign on.
func plainApply(d api.Edition, l []api.Change) (next api.Edition, at int, e api.Errno) {
	slabs := make([]int, len(l))
	for i, c := range l {
		if slabs[i], e = plainError(d, c, l[:i]); e != api.OK {
			return api.Edition{}, i, e
		}
	}
	next = copied(d)
	for s := range d.Slabs {
		for line, text := range d.Slabs[s].Lines {
			first := -1
			old, _ := Signs(text)
			var signs []api.Sign
			for place := range len(old) + 1 {
				kept := place < len(old)
				for _, putsIn := range []bool{true, false} {
					for i, c := range l {
						if slabs[i] != s || c.Line != line || putsIn != (c.From == c.Until) {
							continue
						}
						if first < 0 {
							first = i
						}
						if c.From == place {
							put, _ := Signs(c.Text)
							signs = append(signs, put...)
						}
						kept = kept && (place < c.From || place >= c.Until)
					}
				}
				if kept {
					signs = append(signs, old[place])
				}
			}
			if e := plainCheck(signs); e != api.OK {
				return api.Edition{}, slices.IndexFunc(l, func(c api.Change) bool {
					i, _ := plainError(d, c, nil)
					return i == s && c.Line == line
				}), e
			}
			next.Slabs[s].Lines[line] = plainPrint(signs)
		}
	}
	return next, 0, api.OK
}

// copied returns an edition that shares no memory with d.
func copied(d api.Edition) api.Edition {
	next := api.Edition{Books: d.Books}
	for _, s := range d.Slabs {
		next.Slabs = append(next.Slabs, api.Slab{Numbers: append([]int(nil), s.Numbers...), Lines: append([]string(nil), s.Lines...)})
	}
	return next
}

// trueLine returns a valid line of at most so many signs, in which signs of one kind often follow each other.
func trueLine(r *rand.Rand, most int) []api.Sign {
	for {
		var l []api.Sign
		kind := 1 + r.Intn(10)
		for range 1 + r.Intn(most) {
			if r.Intn(2) == 0 {
				kind = 1 + r.Intn(10)
			}
			s := api.Sign{Kind: kind, Letter: "ABZ"[r.Intn(3)]}
			switch kinds[kind-1] {
			case 'g', 'b', 'f':
				s.Letter = 0
			case 'l':
				s.Letter = "A.Z"[r.Intn(3)]
			}
			if r.Intn(6) == 0 {
				s = api.Sign{Kind: api.SignBlank}
			}
			if e := plainCheck(append(slices.Clone(l), s, of("sA")[0])); e == api.OK || e == api.ErrMany {
				l = append(l, s)
			}
		}
		if plainCheck(l) == api.OK {
			return l
		}
	}
}

// trueEdition returns a valid edition, with lines of at most so many signs.
func trueEdition(r *rand.Rand, most int) api.Edition {
	d := api.Edition{Books: 1 + r.Intn(3)}
	slabs := r.Intn(6)
	numbers := make([][]int, d.Books)
	for book := range numbers {
		numbers[book] = append(numbers[book], r.Perm(8 + r.Intn(992))[:5]...)
	}
	for i := range slabs {
		var s api.Slab
		for book := range d.Books {
			n := numbers[book][i] + 1
			if r.Intn(4) == 0 {
				n = 0
			}
			s.Numbers = append(s.Numbers, n)
		}
		if slices.Max(s.Numbers) == 0 {
			s.Numbers[r.Intn(d.Books)] = 999 - i
		}
		for range 1 + r.Intn(4) {
			s.Lines = append(s.Lines, plainPrint(trueLine(r, most)))
		}
		d.Slabs = append(d.Slabs, s)
	}
	for book := range d.Books { // two slabs may have got 999 and the like in the same book
		seen := map[int]bool{}
		for _, s := range d.Slabs {
			if s.Numbers[book] != 0 && seen[s.Numbers[book]] {
				return trueEdition(r, most)
			}
			seen[s.Numbers[book]] = true
		}
	}
	return d
}

// trueChange returns a change of an edition with slabs that has no error as long as there is no other one.
func trueChange(r *rand.Rand, d api.Edition) api.Change {
	s := d.Slabs[r.Intn(len(d.Slabs))]
	book := r.Intn(d.Books)
	for s.Numbers[book] == 0 {
		book = r.Intn(d.Books)
	}
	c := api.Change{Book: book, Number: s.Numbers[book], Line: r.Intn(len(s.Lines))}
	l, _ := Signs(s.Lines[c.Line])
	c.From = r.Intn(len(l) + 1)
	c.Until = c.From + min(r.Intn(4), r.Intn(len(l)+1-c.From))
	if c.From == c.Until || r.Intn(4) > 0 {
		c.Text = plainPrint(trueLine(r, 3))
	}
	return c
}
