package rule_test

import (
	"math"
	"math/rand"
	"slices"
	"strconv"
	"testing"

	"almanac/api"
	"almanac/rule"
)

// Promises 6.2, 6.3 and 6.4, by rules that are drawn, the same each time.

// some draws a list of so many numbers, not 0; those below 0 only where least is.
func some(r *rand.Rand, many, least, most int) []int {
	var l []int
	for len(l) < many {
		if n := least + r.Intn(most-least+1); n != 0 || least == 0 {
			l = append(l, n)
		}
	}
	return l
}

// seldom draws up to so many such numbers; most often none.
func seldom(r *rand.Rand, most, least, top int) []int {
	if r.Intn(3) > 0 {
		return nil
	}
	return some(r, 1+r.Intn(most), least, top)
}

// drawn draws a rule of a calendar.
func drawn(r *rand.Rand, cal api.Cal, start api.Local) api.Rule {
	x := api.Rule{Cal: cal, Freq: 1 + r.Intn(5), Every: 1 + r.Intn(4)*r.Intn(3), First: 1 + r.Intn(7)}
	if r.Intn(20) == 0 {
		x.Every = 1 + r.Intn(1000)
	}
	if r.Intn(4) == 0 {
		x.Count = 1 + r.Intn(100)
	}
	if r.Intn(4) == 0 {
		x.Ends, x.Until = true, start+api.Local(r.Intn(4000*api.Daily)-100)
	}
	x.Months = seldom(r, 5, 1, 13)
	if x.Freq == api.Yearly {
		if cal == api.Gregorian {
			x.Weeks = seldom(r, 6, -53, 53)
		}
		if r.Intn(2) == 0 {
			x.YearDays = seldom(r, 60, -385, 385)
		}
	}
	if x.Freq != api.Weekly {
		x.MonthDays = seldom(r, 12, -31, 31)
	}
	for range r.Intn(3) * r.Intn(3) {
		d := api.Nth{Day: 1 + r.Intn(7)}
		if (x.Freq == api.Yearly || x.Freq == api.Monthly) && len(x.Weeks) == 0 {
			d.N = []int{0, r.Intn(13) - 6, r.Intn(107) - 53}[r.Intn(3)]
		}
		x.Days = append(x.Days, d)
	}
	x.Hours = seldom(r, 4, 0, 23)
	x.Minutes = seldom(r, 3, 0, 59)
	x.Seconds = seldom(r, 2, 0, 59)
	x.Places = seldom(r, 5, -10, 10)
	if r.Intn(4) == 0 {
		x.Places = seldom(r, 60, -400, 400)
	}
	return x
}

func TestDrawnRules(t *testing.T) {
	for cal := api.Gregorian; cal <= api.Egyptian; cal++ {
		t.Run(strconv.Itoa(int(cal)), func(t *testing.T) {
			t.Parallel()
			wantDrawn(t, cal)
		})
	}
}

// wantDrawn says whether rules that are drawn of a calendar have the times that the model tells.
func wantDrawn(t *testing.T, cal api.Cal) {
	r := rand.New(rand.NewSource(620 + int64(cal)))
	for _, day := range []int{margin - api.MaxDay, -719_528 + r.Intn(800), 19_000 + r.Intn(2000), api.MaxDay - margin} {
		a := almanacOf(t, cal, day)
		for range 8 {
			second := r.Intn(api.Daily)
			start := api.Local(day*api.Daily + second)
			x := drawn(r, cal, start)
			m := &model{almanac: a, r: x, start: about, second: second}
			want := m.times()
			wantTimes(t, at("%+v from %d on", x, start), all(t, x, start, math.MaxInt), want)
			wantPieces(t, r, x, start, want)
		}
	}
}

// wantPieces says whether what Next and Between tell of a rule are these times.
func wantPieces(t *testing.T, r *rand.Rand, x api.Rule, start api.Local, want []api.Local) {
	t.Helper()
	points := []api.Local{math.MinInt, start - 1, start, start + 1, start + api.Horizon*api.Daily, math.MaxInt}
	for range 6 {
		points = append(points, start+api.Local(r.Intn(api.Horizon*api.Daily)))
	}
	for range 6 {
		if len(want) > 0 {
			k := want[r.Intn(len(want))]
			points = append(points, k-1, k, k+1)
		}
	}
	slices.Sort(points)
	var joined []api.Local
	for i, p := range points {
		next, err := rule.Next(x, start, p)
		behind, has := slices.BinarySearch(want, p)
		if has {
			behind++
		}
		if behind < len(want) {
			wantValue(t, at("Next(%+v, %d, %d)", x, start, p), next, err, want[behind])
		} else {
			wantError(t, at("Next(%+v, %d, %d)", x, start, p), next, err, api.ErrNone)
		}
		if i > 0 {
			l, err := rule.Between(x, start, points[i-1], p)
			if err != nil {
				t.Errorf("Between(%+v, %d, %d, %d): %v", x, start, points[i-1], p, err)
			}
			joined = append(joined, l...)
		}
	}
	wantTimes(t, at("pieces of %+v from %d on", x, start), joined, want)
}
