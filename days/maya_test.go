package days_test

import (
	"testing"

	"almanac/api"
	"almanac/days"
)

const mayaFirst = -1856305

// nextMaya is how the next day is called: each part goes on, and where it is at its end the one ahead of it does.
func nextMaya(m api.Maya) api.Maya {
	for _, part := range []struct {
		n    *int
		most int
	}{{&m.Kin, 20}, {&m.Uinal, 18}, {&m.Tun, 20}, {&m.Katun, 20}, {&m.Baktun, 1 << 30}} {
		if *part.n++; *part.n < part.most {
			break
		}
		*part.n = 0
	}
	r := &m.Round
	r.Number = r.Number%13 + 1
	r.Name = r.Name%20 + 1
	r.HaabDay++
	if r.HaabDay == 20 || r.HaabMonth == 19 && r.HaabDay == 5 {
		r.HaabMonth, r.HaabDay = r.HaabMonth%19+1, 0
	}
	return m
}

func TestMayaFollows(t *testing.T) {
	want := api.Maya{Round: api.Round{HaabMonth: 18, HaabDay: 8, Number: 4, Name: 20}}
	for day := mayaFirst; day <= api.MaxDay; day++ {
		m, err := days.Maya(day)
		if err != nil || m != want {
			t.Fatalf("1.7: Maya(%d): %v, %v; %v is wanted", day, m, err, want)
		}
		want = nextMaya(want)
	}
}

func TestMayaKnown(t *testing.T) {
	day := mustDay(t, api.Gregorian, 2012, 12, 21)
	m, err := days.Maya(day)
	wantValue(t, at("1.7: Maya of 2012-12-21"), m, err, api.Maya{Baktun: 13, Round: api.Round{HaabMonth: 14, HaabDay: 3, Number: 4, Name: 20}})
	m, err = days.Maya(day - 1)
	wantValue(t, at("1.7: Maya of 2012-12-20"), m, err, api.Maya{Baktun: 12, Katun: 19, Tun: 19, Uinal: 17, Kin: 19, Round: api.Round{HaabMonth: 14, HaabDay: 2, Number: 3, Name: 19}})
}

// offCount are days of which the Maya's count tells nothing.
var offCount = append([]int{mayaFirst - 1, -api.MaxDay}, noDays...)

func TestNoMaya(t *testing.T) {
	for _, day := range offCount {
		m, err := days.Maya(day)
		wantError(t, at("1.7: Maya(%d)", day), m, err, api.ErrRange)
		n, err := days.NextRound(api.Round{HaabMonth: 18, HaabDay: 8, Number: 4, Name: 20}, day)
		wantError(t, at("1.7: NextRound(.., %d)", day), n, err, api.ErrRange)
		n, err = days.NextRound(api.Round{}, day)
		wantError(t, at("1.7: NextRound(none, %d)", day), n, err, api.ErrRange)
	}
}

func TestNextRound(t *testing.T) {
	const round = 18980
	for _, day := range []int{mayaFirst, -1, 0, 15695, 19999, api.MaxDay - 2*round} {
		m, err := days.Maya(day)
		if err != nil {
			t.Fatal(err)
		}
		for from, want := range map[int]int{day: day, day + 1: day + round, day + 2: day + round, day + round: day + round, day + round/2: day + round} {
			n, err := days.NextRound(m.Round, from)
			wantValue(t, at("1.7: NextRound(%v, %d)", m.Round, from), n, err, want)
		}
	}
}

// TestNoRound: rounds that no day has, and days that end too soon.
func TestNoRound(t *testing.T) {
	const round = 18980
	never := []api.Round{{}, {HaabMonth: 19, HaabDay: 5, Number: 4, Name: 20}, {HaabMonth: 18, HaabDay: 9, Number: 4, Name: 20}, {HaabMonth: 18, HaabDay: 8, Number: 14, Name: 20}, {HaabMonth: 18, HaabDay: 8, Number: 4, Name: 0}}
	for _, r := range never {
		for _, from := range []int{mayaFirst, 0, api.MaxDay - round + 1} {
			n, err := days.NextRound(r, from)
			wantError(t, at("1.7: NextRound(%v, %d)", r, from), n, err, api.ErrNone)
		}
		for _, from := range []int{api.MaxDay - round + 2, api.MaxDay} {
			n, err := days.NextRound(r, from)
			wantError(t, at("1.7: NextRound(%v, %d)", r, from), n, err, api.ErrRange)
		}
	}
	last, err := days.Maya(api.MaxDay)
	if err != nil {
		t.Fatal(err)
	}
	for _, from := range []int{api.MaxDay, api.MaxDay - 1, api.MaxDay - round + 1} {
		n, err := days.NextRound(last.Round, from)
		wantValue(t, at("1.7: NextRound(%v, %d)", last.Round, from), n, err, api.MaxDay)
	}
	ahead, err := days.Maya(api.MaxDay - 1)
	if err != nil {
		t.Fatal(err)
	}
	n, err := days.NextRound(ahead.Round, api.MaxDay)
	wantError(t, at("1.7: NextRound at the end of all days"), n, err, api.ErrRange)
}
