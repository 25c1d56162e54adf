package sums

import (
	"math/rand"
	"slices"
	"strings"
	"testing"

	"cippus/api"
	"cippus/sight"
)

func TestNumeralsP3_6(t *testing.T) {
	for i, want := range numerals() {
		s, e := Numeral(i + 1)
		n, f := Number(s)
		if s != want || e != api.OK || n != i+1 || f != api.OK || len(s) > api.MaxSigns {
			t.Fatal(i+1, s, want, e, n, f)
		}
	}
	if len(numerals()) != api.MaxValue {
		t.Fatal(len(numerals()))
	}
}

// counted returns what a text is worth, by how many of each sign it has; 0 if it is no numeral.
func counted(text string) int {
	sorted, sum := "", 0
	for i, letter := range []string{"M", "D", "C", "L", "X", "V", "I"} {
		many := strings.Count(text, letter)
		if many > 4 || i%2 == 1 && many > 1 {
			return 0
		}
		sorted += strings.Repeat(letter, many)
		sum += many * []int{1000, 500, 100, 50, 10, 5, 1}[i]
	}
	if sorted != text {
		return 0
	}
	return sum
}

func TestCountedP3_6(t *testing.T) {
	var all func(text string)
	all = func(text string) {
		n, e := Number(text)
		if want := counted(text); n != want || (e == api.OK) != (want > 0) || e != api.OK && e != api.ErrShape {
			t.Fatal(text, n, e, want)
		}
		if e == api.OK {
			if s, f := Numeral(n); s != text || f != api.OK {
				t.Fatal(text, n, s, f)
			}
		}
		if len(text) < 6 {
			for _, letter := range "MDCLXVI" {
				all(text + string(letter))
			}
		}
	}
	all("")
	r := rand.New(rand.NewSource(6))
	for i := range 20000 {
		letters := strings.Split(numerals()[r.Intn(4999)], "")
		if k := r.Intn(len(letters)); i%2 == 0 {
			letters[k] = string("MDCLXVI"[r.Intn(7)])
		} else {
			letters = slices.Insert(letters, k, letters[r.Intn(len(letters))])
		}
		text := strings.Join(letters, "")
		if n, _ := Number(text); n != counted(text) {
			t.Fatal(text, n, counted(text))
		}
	}
}

func TestAddsUpP3_7(t *testing.T) {
	for i, s := range smalls() {
		list, e := Readings(s.l, 50)
		if e == api.ErrClash {
			continue
		}
		for k, numbers := range list {
			for m, n := range numbers {
				if numeral, _ := Numeral(n); !matches(numeral, s.l[m].Signs) {
					t.Fatal(i, s.l, numbers)
				}
			}
			if !right(s.l, numbers) || k > 0 && slices.Compare(list[k-1], numbers) >= 0 {
				t.Fatal(i, s.l, list)
			}
		}
		if len(list) == 0 || e != api.OK {
			t.Fatal(i, s.l, list, e)
		}
	}
}

func TestAllReadingsP3_8(t *testing.T) {
	clashes, more := 0, 0
	for i, s := range smalls() {
		want := api.OK
		if len(s.readings) == 0 {
			want = api.ErrClash
			clashes++
		}
		if len(s.readings) > 50 {
			more++
		}
		many, e := Count(s.l)
		choices, f := Choices(s.l)
		if many != len(s.readings) || e != api.OK || f != want {
			t.Fatal(i, s.l, many, len(s.readings), e, f)
		}
		if f == api.OK && !sameLists(choices, choicesOf(s.l, s.readings)) {
			t.Fatal(i, s.l, choices)
		}
		for _, most := range []int{1, 2, 7, 49, 50} {
			list, e := Readings(s.l, most)
			if e != want || !sameLists(list, s.readings[:min(most, len(s.readings))]) {
				t.Fatal(i, s.l, most, list, e)
			}
		}
	}
	if clashes < 100 || len(smalls())-clashes < 100 || more < 10 {
		t.Fatal("not enough of each sort:", clashes, more, len(smalls()))
	}
}

func TestSharedP3_9(t *testing.T) {
	for i, s := range smalls() {
		printed, e := Print(s.l)
		if len(s.readings) == 0 {
			if e != api.ErrClash || printed != nil {
				t.Fatal(i, s.l, printed, e)
			}
			continue
		}
		for k, entry := range s.l {
			want := ""
			for p, letter := range entry.Signs {
				seen := map[byte]bool{}
				for _, numbers := range s.readings {
					seen[numerals()[numbers[k]-1][p]] = true
				}
				for shared := range seen {
					if len(seen) == 1 && letter == '?' {
						letter = rune(strings.ToLower(string(shared))[0])
					}
				}
				want += string(letter)
			}
			if e != api.OK || len(printed) != len(s.l) || printed[k] != want {
				t.Fatal(i, s.l, printed, want, e)
			}
		}
		if !strings.Contains(signsOf(s.l), "?") && strings.Join(printed, "") != signsOf(s.l) {
			t.Fatal(i, s.l, printed)
		}
	}
}

// replaced returns the account with another sign at one place.
func replaced(l []api.Entry, entry, place int, letter string) []api.Entry {
	l = slices.Clone(l)
	signs := l[entry].Signs
	l[entry].Signs = signs[:place] + letter + signs[place+1:]
	return l
}

func TestRestoredP3_10(t *testing.T) {
	written := 0
	for i, s := range smalls() {
		choices, e := Choices(s.l)
		many, _ := Count(s.l)
		printed, _ := Print(s.l)
		if e != api.OK {
			continue
		}
		for k, entry := range s.l {
			for p, letter := range entry.Signs {
				if letter != '?' {
					continue
				}
				for _, sign := range "MDCLXVI" {
					if fewer, _ := Count(replaced(s.l, k, p, string(sign))); fewer > many {
						t.Fatal(i, s.l, k, p, sign, fewer, many)
					}
				}
				if printed[k][p] == '?' {
					continue
				}
				written++
				l := replaced(s.l, k, p, strings.ToUpper(printed[k][p:p+1]))
				same, e := Choices(l)
				if n, f := Count(l); e != api.OK || f != api.OK || n != many || !sameLists(same, choices) {
					t.Fatal(i, s.l, l, same, n, e, f)
				}
			}
		}
	}
	if written < 100 {
		t.Fatal("too few signs are restored:", written)
	}
}

func TestStruckP3_11(t *testing.T) {
	sizes := [9]int{}
	for i, s := range smalls() {
		want, ok := struckOf(s.l)
		struck, e := Struck(s.l)
		if !slices.Equal(struck, want) || (e == api.OK) != ok || !ok && e != api.ErrClash {
			t.Fatal(i, s.l, struck, want, e)
		}
		if ok {
			sizes[len(want)]++
		} else {
			sizes[8]++
		}
	}
	if sizes[0] < 100 || sizes[1] < 50 || sizes[2] < 20 || sizes[3] < 1 || sizes[8] < 1 {
		t.Fatal("not enough of each size:", sizes)
	}
}

func TestMovedP3_12(t *testing.T) {
	moved := 0
	for i, s := range smalls() {
		choices, e := Choices(s.l)
		for a := range s.l {
			for b := a + 1; b < len(s.l) && s.l[a].Kind == api.EntryItem && s.l[b].Kind == api.EntryItem; b++ {
				moved++
				l := slices.Clone(s.l)
				l[a], l[b] = l[b], l[a]
				got, f := Choices(l)
				if e == api.OK && f == api.OK {
					got[a], got[b] = got[b], got[a]
				}
				if e != f || !sameLists(got, choices) {
					t.Fatal(i, s.l, l, got, choices, e, f)
				}
			}
		}
	}
	if moved < 200 {
		t.Fatal("too few items changed places:", moved)
	}
}

// TestAllAsSumP3_12 has an EntryAll behind the only EntrySum, with the same signs.
func TestAllAsSumP3_12(t *testing.T) {
	compared := 0
	for i, s := range smalls() {
		items := slices.DeleteFunc(slices.Clone(s.l), func(entry api.Entry) bool { return entry.Kind != api.EntryItem })
		for _, sum := range []string{"X?", "?", "XX", "LX?", "VI"} {
			if strings.Count(signsOf(items), "?") > 1 || len(items) > 6 {
				continue
			}
			one := append(slices.Clone(items), api.Entry{Kind: api.EntrySum, Signs: sum})
			two := append(slices.Clone(one), api.Entry{Kind: api.EntryAll, Signs: sum})
			want, e := Choices(one)
			got, f := Choices(two)
			if e == api.OK && f == api.OK {
				compared++
				want = append(want, want[len(want)-1])
			}
			if e != f || !sameLists(got, want) {
				t.Fatal(i, one, two, got, want, e, f)
			}
		}
	}
	if compared < 20 {
		t.Fatal("too few accounts add up:", compared)
	}
}

func TestAccountsP3_13(t *testing.T) {
	for i, s := range smalls() {
		text, e := Write(s.l)
		l, row, f := Read(text)
		if e != api.OK || f != api.OK || row != 0 || !slices.Equal(l, s.l) {
			t.Fatal(i, s.l, text, l, row, e, f)
		}
		if again, e := Write(l); e != api.OK || again != text {
			t.Fatal(i, text, again, e)
		}
	}
}

// cut is a hand that cuts the signs of numerals.
func cut() api.Hand {
	var hand api.Hand
	for i, letter := range []byte("CDILMVX") {
		hand.Shapes = append(hand.Shapes, api.Shape{Letter: letter, Strokes: []int{48, 49, 2, 65, 15, 130, 6}[i]})
	}
	return hand
}

// seen returns the line of a numeral as it was seen in a light or two, in which some strokes do not show.
func seen(r *rand.Rand, numeral string) api.Line {
	l := api.Line{Hands: []api.Hand{cut()}, Worn: 1}
	for _, letter := range numeral {
		strokes := l.Hands[0].Shapes[strings.IndexRune("CDILMVX", letter)].Strokes
		if r.Intn(6) == 0 {
			strokes &= strokes - 1
			l.Total++
		}
		var lights []api.Light
		for range 1 + r.Intn(2) {
			shows := 255 &^ (1 << r.Intn(8)) &^ (1 << r.Intn(8))
			lights = append(lights, api.Light{Shows: shows, Seen: shows & strokes})
		}
		l.Squares = append(l.Squares, lights)
	}
	return l
}

func TestCountedT1(t *testing.T) {
	r := rand.New(rand.NewSource(1))
	looked, restored := 0, 0
	for i := range 2000 {
		l, numbers := trueAccount(r)
		fits := make([][]string, len(l))
		for k, entry := range l {
			if len(entry.Signs) > api.MaxSquares {
				continue
			}
			letters, e := sight.Letters(seen(r, entry.Signs))
			if e != api.OK {
				t.Fatal(i, entry, e)
			}
			l[k].Signs = ""
			for _, may := range letters {
				if len(may) > 1 {
					may = "?"
				}
				l[k].Signs += may
			}
			fits[k] = letters
		}
		if strings.Count(signsOf(l), "?") > api.MaxLost {
			continue
		}
		looked++
		choices, e := Choices(l)
		printed, f := Print(l)
		if e != api.OK || f != api.OK {
			t.Fatal(i, l, numbers, e, f)
		}
		for k := range l {
			if !slices.Contains(choices[k], numbers[k]) {
				t.Fatal(i, l, numbers, choices)
			}
			for p := range fits[k] {
				sign := strings.ToUpper(printed[k][p : p+1])
				if sign != "?" && !strings.Contains(fits[k][p], sign) {
					t.Fatal(i, l, printed, fits)
				}
				if sign != printed[k][p:p+1] {
					restored++
				}
			}
		}
	}
	if looked < 200 || restored < 100 {
		t.Fatal("too few accounts, or signs:", looked, restored)
	}
}
