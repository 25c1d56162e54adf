package forge

import (
	"reflect"
	"slices"
	"strings"
	"testing"

	"cippus/api"
)

const exampleText = "dossier/1400/1/2\ntrait/100/120/300/350/1500/1520\ntrait/50/60/90/95/1700/1750\ntrait/0/10/400/400/1400/1450\ncase/0 1/80/200/1710/1720/0\ncase/0 2/150/200/1600/1610/1\ncase/1 2/92/100/1650/1680/ground\ncase/0/90/110/1510/1515/0\nshut\n"

func TestWriteP8_5(t *testing.T) {
	greatest := api.Dossier{
		Begin: -3000, Most: 4, Shops: 4,
		Traits: slices.Repeat([]api.Trait{trait(-3000, -3000, -3000, -3000, -3000, -3000)}, 6),
		Cases:  slices.Repeat([]api.Case{on(ground, -3000, -3000, -3000, -3000, 0, 1, 2, 3, 4, 5)}, 6),
	}
	for text, d := range map[string]api.Dossier{
		exampleText: example(),
		"dossier/1400/1/2\ncase/*/92/100/1650/1680/ground\nshut\n":                                       with(func(d *api.Dossier) { d.Traits, d.Cases = nil, []api.Case{on(ground, 92, 100, 1650, 1680)} }),
		"dossier/0/0/0\ncase/*/0/0/0/0/ground\nshut\n":                                                   {Cases: []api.Case{{Shop: ground}}},
		"dossier/-1/0/1\ncase/*/-2/-1/0/10/0\nshut\n":                                                    {Begin: -1, Shops: 1, Cases: []api.Case{on(0, -2, -1, 0, 10)}},
		"dossier/5/4/3\ntrait/1/2/3/4/5/6\ncase/0/7/8/9/10/2\ncase/*/7/8/9/10/1\nshut\n":                 {Begin: 5, Most: 4, Shops: 3, Traits: []api.Trait{trait(1, 2, 3, 4, 5, 6)}, Cases: []api.Case{on(2, 7, 8, 9, 10, 0), on(1, 7, 8, 9, 10)}},
		"dossier/5/0/1\ntrait/9/9/-9/-8/0/0\ntrait/0/0/0/0/0/0\ncase/*/7/8/9/10/0\nshut\n":               {Begin: 5, Shops: 1, Traits: []api.Trait{trait(9, 9, -9, -8, 0, 0), {}}, Cases: []api.Case{on(0, 7, 8, 9, 10)}},
		"dossier/3000/2/4\ncase/*/3000/3000/-3000/3000/3\ncase/*/-3000/-3000/-3000/-3000/ground\nshut\n": {Begin: 3000, Most: 2, Shops: 4, Cases: []api.Case{on(3, 3000, 3000, -3000, 3000), on(ground, -3000, -3000, -3000, -3000)}},
		"dossier/-3000/4/4\n" + strings.Repeat("trait/-3000/-3000/-3000/-3000/-3000/-3000\n", 6) + strings.Repeat("case/0 1 2 3 4 5/-3000/-3000/-3000/-3000/ground\n", 6) + "shut\n": greatest,
	} {
		s, e := Write(d)
		if s != text || e != api.OK {
			t.Errorf("%q: %q %v", text, s, e)
		}
		read, line, f := Read(text)
		if line != 0 || f != api.OK || !reflect.DeepEqual(read, d) {
			t.Errorf("%q: %v %d %v", text, read, line, f)
		}
	}
}

// refused tests that the line of that number is the first one that is not as said.
func refused(t *testing.T, text string, want int) {
	t.Helper()
	if d, line, e := Read(text); line != want || e != api.ErrShape || !reflect.DeepEqual(d, api.Dossier{}) {
		t.Errorf("%q: %v %d %v, not %d", text, d, line, e, want)
	}
}

const (
	headLine   = "dossier/5/0/1\n"
	traitLine  = "trait/-9/1/2/3/4/5\n"
	caseLine   = "case/*/1/2/3/4/0\n"
	groundLine = "case/0/1/2/3/4/ground\n"
	shutLine   = "shut\n"
)

// TestHeadP8_5 has first lines that are not as said, whatever is behind them.
func TestHeadP8_5(t *testing.T) {
	for _, head := range []string{
		"", " ", "/", "5", "dossier", "dossier/", "dossier/5", "dossier/5/0", "dossier/5/0/", "dossier/5/0/1/", "dossier/5/0/1/2", "dossier//5/0/1", "/dossier/5/0/1", "dossier/5//1", "dossier//0/1", "dossier/ 5/0/1", "dossier/5/0/1 ", " dossier/5/0/1", "dossier/5/0/1\r", "dossier 5 0 1", "dossier,5,0,1", "dossier/5 0 1",
		"dossier/05/0/1", "dossier/5/00/1", "dossier/5/0/01", "dossier/-0/0/1", "dossier/5/-0/1", "dossier/5/0/-0", "dossier/-05/0/1", "dossier/+5/0/1", "dossier/--5/0/1", "dossier/-/0/1", "dossier/5-/0/1", "dossier/x/0/1", "dossier/5x/0/1", "dossier/5./0/1", "dossier/123456/0/1", "dossier/-123456/0/1", "dossier/5/123456/1", "dossier/5/0/123456", "dossier/\u0665/0/1", "dossier/\xff/0/1", "dossier/5/0/*", "dossier/5/0/ground",
		"Dossier/5/0/1", "DOSSIER/5/0/1", "dossiers/5/0/1", "dossie/5/0/1", "dossier5/0/1", "trait/5/0/1", "case/5/0/1", "shut/5/0/1", "x/5/0/1",
		"trait/-9/1/2/3/4/5", "case/*/1/2/3/4/0", "case/0/1/2/3/4/ground", "shut",
	} {
		refused(t, head+"\n"+traitLine+caseLine+shutLine, 1)
		refused(t, head+"\n"+headLine+caseLine+shutLine, 1)
		refused(t, head+"\n", 1)
		refused(t, head, 1)
	}
	refused(t, "dossier/5/0/1", 1)
	refused(t, strings.Repeat("x", 1200), 1)
}

// badTraits and badCases are lines that are not as said.
func badTraits() []string {
	return []string{
		"trait", "trait/", "trait/1/1/2/3/4", "trait/1/1/2/3/4/", "trait/1/1/2/3/4/5/", "trait/1/1/2/3/4/5/6", "trait//1/2/3/4/5", "trait/1//2/3/4/5", "trait/1/1/2/3/4/5 ", "trait/ 1/1/2/3/4/5", " trait/1/1/2/3/4/5", "trait/1/1/2/3/4/5\r", "trait 1 1 2 3 4 5", "trait/1 1/2 3/4 5", "trait/1..1/2..3/4..5", "/trait/1/1/2/3/4/5",
		"trait/01/1/2/3/4/5", "trait/1/-0/2/3/4/5", "trait/1/1/00/3/4/5", "trait/1/1/2/+3/4/5", "trait/1/1/2/3/123456/5", "trait/1/1/2/3/4/-123456", "trait/1/1/2/3/4/x", "trait/1/1/2/3/4/--5", "trait/1/1/2/3/4/-", "trait/*/1/2/3/4/5", "trait/1/1/2/3/4/ground", "trait/1/1/2/3/4/\u0665", "trait/1/1/2/3/4/\xff",
		"Trait/1/1/2/3/4/5", "traits/1/1/2/3/4/5", "trai/1/1/2/3/4/5", "trait1/1/2/3/4/5", "TRAIT/1/1/2/3/4/5", "x/1/1/2/3/4/5",
	}
}

func badCases() []string {
	return []string{
		"case", "case/", "case/*", "case/*/1/2/3/4", "case/*/1/2/3/4/", "case/*/1/2/3/4/0/", "case/*/1/2/3/4/0/0", "case//1/2/3/4/0", "case/1/2/3/4/0", "case/*//2/3/4/0", "case/*/1/2/3//0", "/case/*/1/2/3/4/0", " case/*/1/2/3/4/0", "case/*/1/2/3/4/0 ", "case/*/1/2/3/4/0\r", "case * 1 2 3 4 0", "case/*/1..2/3..4/0",
		"case/* /1/2/3/4/0", "case/ */1/2/3/4/0", "case/**/1/2/3/4/0", "case/* */1/2/3/4/0", "case/* 0/1/2/3/4/0", "case/0 */1/2/3/4/0", "case/0  1/1/2/3/4/0", "case/ 0/1/2/3/4/0", "case/0 /1/2/3/4/0", "case/ /1/2/3/4/0", "case/0,1/1/2/3/4/0", "case/0\t1/1/2/3/4/0", "case/00/1/2/3/4/0", "case/0 01/1/2/3/4/0", "case/-0/1/2/3/4/0", "case/+0/1/2/3/4/0", "case/0 123456/1/2/3/4/0", "case/-/1/2/3/4/0", "case/x/1/2/3/4/0", "case/ground/1/2/3/4/0", "case/0/1/1/2/3/4/0",
		"case/*/01/2/3/4/0", "case/*/1/-0/3/4/0", "case/*/1/2/+3/4/0", "case/*/1/2/3/x/0", "case/*/1/2/3/123456/0", "case/*/-123456/2/3/4/0", "case/*/*/2/3/4/0", "case/*/1/2/3/ground/0", "case/*/1/2/3/4 /0",
		"case/*/1/2/3/4/-1", "case/*/1/2/3/4/-0", "case/*/1/2/3/4/-2", "case/*/1/2/3/4/-99999", "case/*/1/2/3/4/00", "case/*/1/2/3/4/01", "case/*/1/2/3/4/+1", "case/*/1/2/3/4/123456", "case/*/1/2/3/4/x", "case/*/1/2/3/4/*", "case/*/1/2/3/4/Ground", "case/*/1/2/3/4/GROUND", "case/*/1/2/3/4/grounds", "case/*/1/2/3/4/groun", "case/*/1/2/3/4/ground ", "case/*/1/2/3/4/ ground", "case/*/1/2/3/4/ground 0", "case/*/1/2/3/4/\u0660", "case/*/1/2/3/4/0 1",
		"Case/*/1/2/3/4/0", "cases/*/1/2/3/4/0", "cas/*/1/2/3/4/0", "case*/1/2/3/4/0", "CASE/*/1/2/3/4/0", "x/*/1/2/3/4/0",
	}
}

// TestLinesP8_5 has lines that are not as said, ahead of and behind others.
func TestLinesP8_5(t *testing.T) {
	others := []string{"", " ", "x", "/", "shut/", "shut/0", "shut ", " shut", "/shut", "Shut", "SHUT", "shuts", "shu", "shut\r", "shut shut", "\x00", "\xff", "dossier/5/0/1", "dossier/5/0/0", "*", "ground"}
	for _, ahead := range []string{headLine, headLine + traitLine, headLine + traitLine + traitLine, headLine + caseLine, headLine + traitLine + groundLine + caseLine} {
		for _, bad := range slices.Concat(badTraits(), badCases(), others) {
			want := strings.Count(ahead, "\n") + 1
			refused(t, ahead+bad+"\n", want)
			refused(t, ahead+bad+"\n"+traitLine+caseLine+shutLine, want)
			refused(t, ahead+bad+"\n"+caseLine+shutLine, want)
			refused(t, ahead+bad+"\n"+shutLine, want)
			if bad != "" {
				refused(t, ahead+bad, want)
			}
		}
	}
}

// TestPlacesP8_5 has lines that are as said, but not where they stand, or are missing.
func TestPlacesP8_5(t *testing.T) {
	const whole = headLine + traitLine + caseLine
	for text, line := range map[string]int{
		"":                                                  1,
		"\n":                                                1,
		"\n\n":                                              1,
		headLine:                                            2,
		headLine + headLine:                                 2,
		headLine + "\n":                                     2,
		headLine + "trait/-9/1/2/3/4/5":                     2,
		headLine + "case/*/1/2/3/4/0":                       2,
		headLine + "shut":                                   2,
		headLine + traitLine:                                3,
		headLine + traitLine + headLine:                     3,
		headLine + traitLine + "shut":                       3,
		headLine + traitLine + traitLine:                    4,
		headLine + caseLine:                                 3,
		headLine + caseLine + traitLine:                     3,
		headLine + caseLine + headLine:                      3,
		headLine + shutLine + shutLine:                      3,
		headLine + shutLine + caseLine:                      3,
		headLine + shutLine + traitLine:                     3,
		headLine + shutLine + headLine:                      3,
		headLine + shutLine + "\n":                          3,
		whole:                                               4,
		whole + traitLine + shutLine:                        4,
		whole + headLine + shutLine:                         4,
		whole + "shut":                                      4,
		whole + "case/*/1/2/3/4/0":                          4,
		whole + groundLine:                                  5,
		whole + groundLine + traitLine:                      5,
		whole + caseLine + "shut":                           5,
		whole + shutLine + shutLine:                         5,
		whole + shutLine + "\n":                             5,
		whole + shutLine + " ":                              5,
		whole + shutLine + "x":                              5,
		whole + shutLine + "\x00":                           5,
		whole + shutLine + "shut":                           5,
		whole + shutLine + caseLine:                         5,
		whole + shutLine + headLine:                         5,
		whole + shutLine + whole + shutLine:                 5,
		headLine + strings.Repeat(traitLine, 50):            52,
		headLine + strings.Repeat(caseLine, 50) + traitLine: 52,
		"dossier/99999/9/9\ntrait/2/1/2/1/2/1\ncase/9 8/2/1/2/1/9\n":                 4,
		"dossier/99999/9/9\ntrait/2/1/2/1/2/1\ncase/9 8/2/1/2/1/9\nshut\n\n":         5,
		"dossier/99999/9/9\ntrait/2/1/2/1/2/1\ncase/9 8/2/1/2/1/-9\nshut\n":          3,
		"dossier/99999/-9/-9\ntrait/2/1/2/1/2/1\ncase/-9 -8/2/1/2/1/9\nshut\nshut\n": 5,
	} {
		refused(t, text, line)
	}
}

// TestReadChecksP8_5 has dossiers whose lines are as said, and which are not valid, or have no truth, and some that have one.
func TestReadChecksP8_5(t *testing.T) {
	for text, want := range map[string]api.Errno{
		headLine + caseLine + shutLine:                                       api.OK,
		headLine + traitLine + groundLine + caseLine + shutLine:              api.OK,
		headLine + traitLine + traitLine + "case/0 1/1/2/3/4/0\n" + shutLine: api.OK,
		headLine + "trait/9/9/1/1/4/5\ncase/0/7/8/1/2/ground\n" + shutLine:   api.OK,
		headLine + shutLine:                                                    api.ErrFew,
		headLine + traitLine + shutLine:                                        api.ErrFew,
		headLine + strings.Repeat(traitLine, 6) + caseLine + shutLine:          api.OK,
		headLine + strings.Repeat(traitLine, 7) + caseLine + shutLine:          api.ErrMany,
		headLine + strings.Repeat(traitLine, 7) + shutLine:                     api.ErrMany,
		headLine + strings.Repeat(caseLine, 6) + shutLine:                      api.OK,
		headLine + strings.Repeat(caseLine, 7) + shutLine:                      api.ErrMany,
		headLine + strings.Repeat(caseLine, 60) + shutLine:                     api.ErrMany,
		"dossier/12345/0/1\n" + caseLine + shutLine:                            api.ErrBounds,
		"dossier/-99999/0/1\n" + caseLine + shutLine:                           api.ErrBounds,
		"dossier/3001/0/1\n" + caseLine + shutLine:                             api.ErrBounds,
		"dossier/-3000/0/1\n" + caseLine + shutLine:                            api.OK,
		"dossier/5/5/1\n" + caseLine + shutLine:                                api.ErrBounds,
		"dossier/5/-1/1\n" + caseLine + shutLine:                               api.ErrBounds,
		"dossier/5/0/5\n" + caseLine + shutLine:                                api.ErrBounds,
		"dossier/5/0/-1\n" + caseLine + shutLine:                               api.ErrBounds,
		"dossier/5/0/0\n" + caseLine + shutLine:                                api.ErrAbsent,
		headLine + "trait/2/1/2/3/4/5\n" + caseLine + shutLine:                 api.ErrSequence,
		headLine + "trait/-99999/1/2/3/4/5\n" + caseLine + shutLine:            api.ErrBounds,
		headLine + "trait/1/2/4/3/5/3001\n" + caseLine + shutLine:              api.ErrSequence,
		headLine + "trait/1/2/3/4/6/5\n" + shutLine:                            api.ErrSequence,
		headLine + groundLine + shutLine:                                       api.ErrAbsent,
		headLine + "case/-1/1/2/3/4/0\n" + shutLine:                            api.ErrAbsent,
		headLine + traitLine + "case/0 0/1/2/3/4/0\n" + shutLine:               api.ErrSequence,
		headLine + traitLine + "case/0 1/1/2/3/4/0\n" + shutLine:               api.ErrAbsent,
		headLine + traitLine + traitLine + "case/1 0/1/2/3/4/0\n" + shutLine:   api.ErrSequence,
		headLine + traitLine + "case/0 99999 7/1/2/3/4/0\n" + shutLine:         api.ErrAbsent,
		headLine + "case/*/2/1/3/4/0\n" + shutLine:                             api.ErrSequence,
		headLine + "case/*/1/2/4/3/0\n" + shutLine:                             api.ErrSequence,
		headLine + "case/*/1/99999/4/3/0\n" + shutLine:                         api.ErrBounds,
		headLine + "case/*/1/2/-3001/3/0\n" + shutLine:                         api.ErrBounds,
		headLine + "case/*/1/2/3/4/1\n" + shutLine:                             api.ErrAbsent,
		headLine + "case/*/1/2/3/4/99999\n" + shutLine:                         api.ErrAbsent,
		headLine + "case/*/1/2/3/4/1\ncase/*/2/1/3/4/0\n" + shutLine:           api.ErrAbsent,
		headLine + "case/0" + strings.Repeat(" 1", 500) + "/1/2/3/4/0\nshut\n": api.ErrAbsent,
		strings.Repeat("x", 1201):                                              api.ErrLong,
		strings.Repeat("\n", 1201):                                             api.ErrLong,
		strings.Repeat(exampleText, 10000):                                     api.ErrLong,
		exampleText + strings.Repeat("\xff", 1201-len(exampleText)):            api.ErrLong,
	} {
		d, line, e := Read(text)
		if line != 0 || e != want || (e != api.OK) != reflect.DeepEqual(d, api.Dossier{}) {
			t.Errorf("%q: %v %d %v", text, d, line, e)
		}
	}
}

func TestLongP8_5(t *testing.T) {
	shown := func(long int) string {
		begin, end := headLine+traitLine+"case/0", "/1/2/3/4/0\n"+shutLine
		return begin + strings.Repeat(" 0", (long-len(begin)-len(end))/2) + end
	}
	for i, c := range []struct {
		text       string
		long, line int
		want       api.Errno
	}{
		{shown(1199), 1199, 0, api.ErrSequence},
		{shown(1199) + "\n", 1200, 5, api.ErrShape},
		{shown(1201), 1201, 0, api.ErrLong},
		{exampleText + strings.Repeat("\n", 1200-len(exampleText)), 1200, 10, api.ErrShape},
		{exampleText + strings.Repeat("\n", 1201-len(exampleText)), 1201, 0, api.ErrLong},
	} {
		if d, line, e := Read(c.text); len(c.text) != c.long || line != c.line || e != c.want || !reflect.DeepEqual(d, api.Dossier{}) {
			t.Error(i, len(c.text), c.long, d, line, e)
		}
	}
}
