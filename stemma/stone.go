package stemma

import (
	"iter"
	"math/bits"

	"cippus/api"
)

// alphabet is how many letters there are.
const alphabet = 26

// letters are some letters: the bit 0 is the A, the bit 25 is the Z.
type letters uint32

const allLetters letters = 1<<alphabet - 1

func letter(c byte) letters { return 1 << (c - 'A') }

// have reports whether a letter is one of these.
func (s letters) have(c byte) bool { return s&letter(c) != 0 }

// text returns the letters in the order of the alphabet.
func (s letters) text() string {
	var text []byte
	for left := s; left != 0; left &= left - 1 {
		text = append(text, byte('A'+bits.TrailingZeros32(uint32(left))))
	}
	return string(text)
}

// stones are for each place the letters that some stones have there.
type stones [api.MaxPlaces]letters

// choices hands out what the stone may have at a place: each letter that a copy has there, and all others together, since they are errors of the same copies.
func choices(l []api.Copy, place int) iter.Seq[letters] {
	return func(yield func(letters) bool) {
		others := allLetters
		for _, c := range l {
			chosen := letter(c.Text[place]) & others
			others &^= chosen
			if chosen != 0 && !yield(chosen) {
				return
			}
		}
		yield(others)
	}
}

// left is how many errors each copy of the stone may still have.
type left [api.MaxCopies]int

// aside stands for a copy that was not made from the stone.
const aside = -1

// whole returns what is left ahead of the first place.
func whole(l []api.Copy, from sources) left {
	var spare left
	for i, c := range l {
		spare[i] = aside
		if from[i] == stone {
			spare[i] = c.Errors
		}
	}
	return spare
}

// after returns what is left if the stone has one of some letters at a place, and how many errors there are at this place; false if a copy has one error too many.
func (s left) after(l []api.Copy, place int, chosen letters) (left, int, bool) {
	errors := 0
	for i, c := range l {
		if s[i] == aside || chosen.have(c.Text[place]) {
			continue
		}
		if s[i] == 0 {
			return left{}, 0, false
		}
		s[i]--
		errors++
	}
	return s, errors, true
}

// never is more errors than all copies can have.
const never = api.MaxCopies*api.MaxErrors + 1

// search returns what tells how many errors there are at least in the copies of the stone, if each may have so many: never if there is no such stone. It puts the letters of all stones that it finds into found.
func search(l []api.Copy, found *stones) func(left) int {
	var known [api.MaxPlaces]map[left]int
	for place := range known {
		known[place] = map[left]int{}
	}
	var fewest func(place int, spare left) int
	fewest = func(place int, spare left) int {
		if place == len(l[0].Text) {
			return 0
		}
		if errors, again := known[place][spare]; again {
			return errors
		}
		errors := least(choices(l, place), func(chosen letters) int {
			rest, here, ok := spare.after(l, place, chosen)
			if !ok {
				return never
			}
			later := fewest(place+1, rest)
			if later == never {
				return never
			}
			found[place] |= chosen
			return here + later
		})
		known[place][spare] = errors
		return errors
	}
	return func(spare left) int { return fewest(0, spare) }
}

// least returns the least cost of some things, never if there are none.
func least[T any](things iter.Seq[T], cost func(T) int) int {
	low := never
	for thing := range things {
		low = min(low, cost(thing))
	}
	return low
}
