package career

import (
	"errors"
	"reflect"
	"strings"
	"testing"

	"cippus/api"
)

const exampleRegest = "offices,2\noffice,25,0,5\noffice,30,3,10\nlife,90,15,60\ntown,NF\ntown,FN\nman,4,-100,-60,-60,0\nman,4,-70,-30,-40,20\nheld,0,0,0,-50,-45\nheld,0,1,1,-48,-40\nheld,1,0,1,-20,-15\nkin,0,1\nend\n"

// plain is a roll without offices and records.
func plain(far [][]bool, men ...api.Man) api.Roll {
	return api.Roll{Parents: to(1, 1), Far: far, Men: men}
}

func TestWriteP6_4(t *testing.T) {
	greatest := api.Roll{Life: 100, Parents: to(100, 100), Far: apartAll(4)}
	for range 5 {
		greatest.Offices = append(greatest.Offices, api.Office{Age: 100, Gap: 100, Again: 100})
	}
	for range 6 {
		greatest.Men = append(greatest.Men, api.Man{Name: 9, Born: to(-3000, -3000), Died: to(-3000, -3000)})
	}
	for range 8 {
		greatest.Records = append(greatest.Records, held(5, -1, 3, -3000, -3000))
	}
	for text, r := range map[string]api.Roll{
		exampleRegest: example(),
		"offices,0\nlife,90,15,60\ntown,NF\ntown,FN\nman,4,-100,-60,-60,0\nman,4,-70,-30,-40,20\nend\n": with(func(r *api.Roll) { r.Offices, r.Records = nil, nil }),
		"offices,0\nlife,0,1,1\ntown,N\nman,0,0,0,0,0\nend\n":                                           plain(apartAll(1), api.Man{}),
		"offices,0\nlife,0,1,1\ntown,NNF\ntown,NNN\ntown,FNN\nman,0,-1,0,1,3000\nend\n":                 plain([][]bool{{false, false, true}, {false, false, false}, {true, false, false}}, api.Man{Born: to(-1, 0), Died: to(1, 3000)}),
		"offices,5\n" + strings.Repeat("office,100,100,100\n", 5) + "life,100,100,100\ntown,NFFF\ntown,FNFF\ntown,FFNF\ntown,FFFN\n" + strings.Repeat("man,9,-3000,-3000,-3000,-3000\n", 6) + strings.Repeat("held,5,-1,3,-3000,-3000\n", 8) + "end\n": greatest,
		"offices,1\noffice,0,0,1\nlife,0,1,1\ntown,N\nman,0,0,0,0,0\nman,1,0,0,0,0\nkin,1,0\nheld,1,0,0,-1,3\nkin,0,1\nheld,0,-1,0,0,0\nend\n":                                                                                                         {Offices: []api.Office{{Again: 1}}, Parents: to(1, 1), Far: apartAll(1), Men: []api.Man{{}, {Name: 1}}, Records: []api.Record{kin(1, 0), held(1, 0, 0, -1, 3), kin(0, 1), held(0, -1, 0, 0, 0)}},
	} {
		s, e := Write(r)
		if s != text || e != api.OK {
			t.Errorf("%q: %q %v", text, s, e)
		}
		read, line, f := Read(text)
		if line != 0 || f != api.OK || !reflect.DeepEqual(read, r) {
			t.Errorf("%q: %v %d %v", text, read, line, f)
		}
	}
}

// refused tests that the row of that number is the first one that is not as said.
func refused(t *testing.T, text string, want int) {
	t.Helper()
	if r, line, e := Read(text); line != want || e != api.ErrShape || !reflect.DeepEqual(r, api.Roll{}) {
		t.Errorf("%q: %v %d %v, not %d", text, r, line, e, want)
	}
}

const (
	officesRow = "offices,0\n"
	officeRow  = "office,1,2,3\n"
	lifeRow    = "life,90,15,60\n"
	townRow    = "town,N\n"
	manRow     = "man,1,-5,5,20,30\n"
	heldRow    = "held,0,-1,0,7,9\n"
	kinRow     = "kin,0,1\n"
	endRow     = "end\n"
)

// TestHeadP6_4 has first rows that are not as said, whatever is behind them.
func TestHeadP6_4(t *testing.T) {
	for _, head := range []string{
		"", " ", ",", "0", "offices", "offices,", "offices,0,", "offices,,0", "offices,0,0", "offices, 0", "offices 0", "offices;0", " offices,0", "offices,0 ", "offices,0\r", "offices,-0", "offices,-1", "offices,+1", "offices,00", "offices,01", "offices,123456", "offices,-12345", "offices,x", "offices,1x", "offices,1.", "offices,-", "offices,\u0662", "offices,\xff",
		"Offices,0", "office,0", "officess,0", "offices0", "office,1,2,3", "life,90,15,60", "town,N", "man,1,-5,5,20,30", "held,0,-1,0,7,9", "kin,0,1", "end",
	} {
		refused(t, head+"\n"+lifeRow+townRow+manRow+endRow, 1)
		refused(t, head+"\n"+officesRow+lifeRow+endRow, 1)
		refused(t, head+"\n", 1)
		refused(t, head, 1)
	}
	refused(t, "offices,0", 1)
	refused(t, strings.Repeat("x", 1500), 1)
}

// TestRowsP6_4 has rows that are not as said, ahead of and behind others.
func TestRowsP6_4(t *testing.T) {
	life := []string{
		"life", "life,", "life,90", "life,90,15", "life,90,15,", "life,90,15,60,1", "life,90,15,60,", "life,,90,15,60", "life,90,,15,60", "life,090,15,60", "life,90,015,60", "life,90,15,-0", "life,90,15,+60", "life,123456,15,60", "life,90,15,-123456", "life,90, 15,60", "life 90,15,60", "life 90 15 60", "life,90,15..60", "life,90,15,x", "Life,90,15,60", "lives,90,15,60", "life,90,15,60\r",
	}
	towns := []string{"town", "town,", "town,n", "town,f", "town,NX", "town,N,N", "town,N,", "town,,N", "town,N ", "town, N", "town,0", "town,NF\r", "town N", "town,N\xff", "town,\u00d1", "Town,N", "towns,N"}
	men := []string{"man", "man,", "man,1,-5,5,20", "man,1,-5,5,20,30,1", "man,1,-5,5,20,30,", "man,1,-5,5,20,", "man,01,-5,5,20,30", "man,1,-05,5,20,30", "man,1,-5,5,20,-0", "man,1,-5,5,--20,30", "man,1,-5,5,123456,30", "man,-123456,-5,5,20,30", "man,1,-5..5,20..30", "man,1,-5,5,20,30 ", "Man,1,-5,5,20,30", "men,1,-5,5,20,30"}
	records := []string{
		"held", "held,", "held,0,-1,0,7", "held,0,-1,0,7,9,1", "held,0,-1,0,7,9,", "held,0,-1,0,7,", "held,0,-1,0,,9", "held,0,-01,0,7,9", "held,0,-1,-0,7,9", "held,0,-1,0,7,123456", "held,0,-1,0,7,+9", "held,0,-,0,7,9", "held 0,-1,0,7,9", "Held,0,-1,0,7,9",
		"kin", "kin,", "kin,0", "kin,0,", "kin,0,1,2", "kin,0,1,", "kin,0,01", "kin,-0,1", "kin,0,123456", "kin,0 1", "kin,0,x", "Kin,0,1", "kins,0,1",
	}
	ends := []string{"", " ", "x", ",", "end,", "end,0", "end ", " end", "End", "ends", "en", "end\r", "\x00", "\xff"}
	for _, c := range []struct{ ahead, bad []string }{
		{[]string{officesRow, "offices,1\n" + officeRow}, append(life, ends...)},
		{[]string{officesRow + lifeRow, officesRow + lifeRow + townRow, "offices,1\n" + officeRow + lifeRow + townRow + townRow}, append(towns, append(men, append(records, ends...)...)...)},
		{[]string{officesRow + lifeRow + townRow + manRow, officesRow + lifeRow + manRow + manRow}, append(men, append(records, ends...)...)},
		{[]string{officesRow + lifeRow + townRow + manRow + heldRow, officesRow + lifeRow + heldRow + kinRow}, append(records, ends...)},
	} {
		for _, ahead := range c.ahead {
			for _, bad := range c.bad {
				want := strings.Count(ahead, "\n") + 1
				refused(t, ahead+bad+"\n", want)
				refused(t, ahead+bad+"\n"+lifeRow+townRow+manRow+endRow, want)
				refused(t, ahead+bad+"\n"+manRow+endRow, want)
				refused(t, ahead+bad+"\n"+endRow, want)
				if bad != "" {
					refused(t, ahead+bad, want)
				}
			}
		}
	}
}

func TestOfficesP6_4(t *testing.T) {
	for _, bad := range []string{"office", "office,", "office,1,2", "office,1,2,3,4", "office,1,2,3,", "office,01,2,3", "office,1,-0,3", "office,1,2,123456", "office,1,2,3 ", "office 1,2,3", "Office,1,2,3", "offices,1", "life,90,15,60", "town,N", "end", ""} {
		for _, ahead := range []string{"offices,2\n", "offices,2\n" + officeRow, "offices,99999\n" + officeRow + officeRow} {
			want := strings.Count(ahead, "\n") + 1
			refused(t, ahead+bad+"\n", want)
			refused(t, ahead+bad+"\n"+officeRow+lifeRow+townRow+manRow+endRow, want)
		}
	}
	for text, line := range map[string]int{
		"offices,0\n" + officeRow:                                   2,
		"offices,1\n":                                               2,
		"offices,1\n" + officeRow:                                   3,
		"offices,1\n" + officeRow + officeRow + lifeRow:             3,
		"offices,2\n" + officeRow + lifeRow + townRow:               3,
		"offices,2\n" + officeRow + officesRow:                      3,
		"offices,5\n" + strings.Repeat(officeRow, 6) + lifeRow:      7,
		"offices,99999\n" + strings.Repeat(officeRow, 100) + "end":  102,
		"offices,99999\n" + strings.Repeat(officeRow, 100):          102,
		"offices,10\n" + strings.Repeat(officeRow, 11) + lifeRow:    12,
		"offices,1\n" + officeRow + lifeRow + officeRow:             4,
		"offices,1\n" + officeRow + lifeRow + townRow + officeRow:   5,
		"offices,1\n" + officeRow + lifeRow + townRow + "offices,1": 5,
	} {
		refused(t, text, line)
	}
}

// TestPlacesP6_4 has rows that are as said, but not where they stand, or are missing.
func TestPlacesP6_4(t *testing.T) {
	const head = officesRow + lifeRow
	const whole = head + townRow + manRow + heldRow
	for text, line := range map[string]int{
		"":                                      1,
		officesRow:                              2,
		officesRow + townRow:                    2,
		officesRow + officesRow + lifeRow:       2,
		officesRow + "life,90,15,60":            2,
		head:                                    3,
		head + lifeRow:                          3,
		head + officesRow:                       3,
		head + "town,N":                         3,
		head + townRow:                          4,
		head + townRow + lifeRow:                4,
		head + townRow + officesRow:             4,
		head + manRow + townRow + endRow:        4,
		head + heldRow + townRow + endRow:       4,
		head + heldRow + manRow + endRow:        4,
		head + kinRow + manRow + endRow:         4,
		head + manRow + kinRow + townRow:        5,
		head + townRow + manRow:                 5,
		head + townRow + manRow + townRow:       5,
		head + townRow + manRow + lifeRow:       5,
		head + townRow + manRow[:len(manRow)-1]: 4,
		whole:                                   6,
		whole + manRow:                          6,
		whole + townRow:                         6,
		whole + lifeRow:                         6,
		whole + officesRow:                      6,
		whole + "end":                           6,
		whole + "kin,0,1":                       6,
		whole + kinRow + heldRow + "end":        8,
		whole + kinRow + heldRow + manRow:       8,
		whole + endRow + endRow:                 7,
		whole + endRow + "\n":                   7,
		whole + endRow + "x":                    7,
		whole + endRow + " ":                    7,
		whole + endRow + "end":                  7,
		whole + endRow + heldRow:                7,
		whole + endRow + manRow + endRow:        7,
		whole + endRow + officesRow + lifeRow:   7,
		head + endRow + endRow:                  4,
		head + endRow + townRow:                 4,
		"offices,0\nlife,999,9,1\nman,99,2,1,2,1\nheld,9,9,9,2,1\nkin,7,7\n":        6,
		"offices,0\nlife,999,9,1\nman,99,2,1,2,1\nheld,9,9,9,2,1\nkin,7,7\nend\n\n": 7,
	} {
		refused(t, text, line)
	}
}

// TestReadChecksP6_4 has regests whose rows are as said, of rolls that are not valid, or may not be, and of some that may be.
func TestReadChecksP6_4(t *testing.T) {
	const head = officesRow + lifeRow + townRow
	for text, want := range map[string]api.Errno{
		head + manRow + endRow:                                                             api.OK,
		head + manRow + heldRow + endRow:                                                   api.OK,
		head + manRow + manRow + kinRow + kinRow + endRow:                                  api.OK,
		head + manRow + "held,0,-1,0,900,950\n" + endRow:                                   api.OK,
		officesRow + lifeRow + endRow:                                                      api.ErrFew,
		officesRow + lifeRow + manRow + endRow:                                             api.ErrFew,
		officesRow + lifeRow + heldRow + endRow:                                            api.ErrFew,
		head + endRow:                                                                      api.ErrFew,
		head + kinRow + endRow:                                                             api.ErrFew,
		officesRow + lifeRow + strings.Repeat(townRow, 5) + endRow:                         api.ErrMany,
		officesRow + lifeRow + townRow + townRow + manRow + endRow:                         api.ErrShape,
		officesRow + lifeRow + "town,F\n" + manRow + endRow:                                api.ErrShape,
		officesRow + lifeRow + "town,NN\n" + manRow + endRow:                               api.ErrShape,
		officesRow + lifeRow + "town,NF\ntown,NN\n" + manRow + endRow:                      api.ErrShape,
		officesRow + lifeRow + "town,NF\ntown,FN\n" + manRow + endRow:                      api.OK,
		officesRow + lifeRow + "town," + strings.Repeat("N", 900) + "\n" + endRow:          api.ErrShape,
		"offices,6\n" + strings.Repeat(officeRow, 6) + lifeRow + endRow:                    api.ErrMany,
		"offices,5\n" + strings.Repeat(officeRow, 5) + lifeRow + townRow + manRow + endRow: api.OK,
		"offices,1\noffice,-1,2,3\n" + lifeRow + townRow + manRow + endRow:                 api.ErrBounds,
		"offices,1\noffice,1,2,0\n" + lifeRow + townRow + manRow + endRow:                  api.ErrBounds,
		"offices,1\noffice,1,99999,3\n" + lifeRow + townRow + manRow + endRow:              api.ErrBounds,
		officesRow + "life,-1,15,60\n" + townRow + manRow + endRow:                         api.ErrBounds,
		officesRow + "life,99999,15,60\n" + townRow + manRow + endRow:                      api.ErrBounds,
		officesRow + "life,90,60,15\n" + townRow + manRow + endRow:                         api.ErrSequence,
		officesRow + "life,90,-99999,15\n" + townRow + manRow + endRow:                     api.ErrBounds,
		head + strings.Repeat(manRow, 6) + endRow:                                          api.OK,
		head + strings.Repeat(manRow, 7) + endRow:                                          api.ErrMany,
		head + "man,-1,0,0,0,0\n" + endRow:                                                 api.ErrBounds,
		head + "man,10,0,0,0,0\n" + endRow:                                                 api.ErrBounds,
		head + "man,0,9,0,0,0\n" + endRow:                                                  api.ErrSequence,
		head + "man,0,0,0,0,-1\n" + endRow:                                                 api.ErrSequence,
		head + "man,0,-3001,0,0,0\n" + endRow:                                              api.ErrBounds,
		head + manRow + strings.Repeat(heldRow, 8) + endRow:                                api.OK,
		head + manRow + strings.Repeat(heldRow, 9) + endRow:                                api.ErrMany,
		head + manRow + "held,1,-1,0,7,9\n" + endRow:                                       api.ErrAbsent,
		head + manRow + "held,0,0,0,7,9\n" + endRow:                                        api.ErrAbsent,
		head + manRow + "held,0,-2,0,7,9\n" + endRow:                                       api.ErrAbsent,
		head + manRow + "held,0,-1,1,7,9\n" + endRow:                                       api.ErrAbsent,
		head + manRow + "held,0,-1,0,9,7\n" + endRow:                                       api.ErrSequence,
		head + manRow + "held,0,-1,0,9,99999\n" + endRow:                                   api.ErrBounds,
		head + manRow + kinRow + endRow:                                                    api.ErrAbsent,
		head + manRow + "kin,0,0\n" + endRow:                                               api.ErrTwice,
		head + manRow + "kin,-1,0\n" + endRow:                                              api.ErrAbsent,
		head + manRow + "held,0,-1,0,9,7\nkin,0,0\n" + endRow:                              api.ErrSequence,
		head + manRow + "kin,0,0\nheld,0,-1,0,9,7\n" + endRow:                              api.ErrTwice,
		strings.Repeat("x", 1501):                                                          api.ErrLong,
		strings.Repeat("\n", 1501):                                                         api.ErrLong,
		strings.Repeat(exampleRegest, 10000):                                               api.ErrLong,
	} {
		r, line, e := Read(text)
		if line != 0 || e != want || (e != api.OK) != reflect.DeepEqual(r, api.Roll{}) {
			t.Errorf("%q: %v %d %v", text, r, line, e)
		}
	}
}

func TestLongRegestsP6_4(t *testing.T) {
	towns := func(letters int) string {
		return officesRow + lifeRow + "town," + strings.Repeat("N", letters) + "\n" + manRow + endRow
	}
	letters := 1500 - len(towns(0))
	for _, c := range []struct {
		text       string
		long, line int
		want       api.Errno
	}{
		{towns(letters), 1500, 0, api.ErrShape},
		{towns(letters)[1:], 1499, 1, api.ErrShape},
		{towns(letters + 1), 1501, 0, api.ErrLong},
		{strings.Repeat("x", 1500), 1500, 1, api.ErrShape},
		{exampleRegest + strings.Repeat("\n", 1500-len(exampleRegest)), 1500, 14, api.ErrShape},
		{exampleRegest + strings.Repeat("\n", 1501-len(exampleRegest)), 1501, 0, api.ErrLong},
	} {
		if r, line, e := Read(c.text); len(c.text) != c.long || line != c.line || e != c.want || !reflect.DeepEqual(r, api.Roll{}) {
			t.Error(len(c.text), c.long, r, line, e)
		}
	}
}

func TestBadRowP6_4(t *testing.T) {
	_, err := parse(officesRow + lifeRow + "x\n")
	var bad badRow
	if !errors.As(err, &bad) || bad != 3 || err.Error() != "row 3 is not as said" {
		t.Error(err)
	}
	if _, err := parse(exampleRegest); err != nil {
		t.Error(err)
	}
}
