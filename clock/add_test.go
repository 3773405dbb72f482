package clock_test

import (
	"math"
	"math/rand"
	"testing"
	"time"

	"almanac/api"
	"almanac/clock"
)

func TestAdd(t *testing.T) {
	noon := func(year, month, day int) api.Local { return local(year, month, day, 12, 0, 0) }
	for _, k := range []struct {
		from api.Local
		p    api.Period
		want api.Local
	}{
		{noon(2024, 1, 31), api.Period{}, noon(2024, 1, 31)},
		{noon(2024, 1, 31), api.Period{Months: 1}, noon(2024, 2, 29)},
		{noon(2023, 1, 31), api.Period{Months: 1}, noon(2023, 2, 28)},
		{noon(2024, 3, 31), api.Period{Months: -1}, noon(2024, 2, 29)},
		{noon(2024, 2, 29), api.Period{Years: 1}, noon(2025, 2, 28)},
		{noon(2024, 2, 29), api.Period{Years: 1, Months: -12}, noon(2024, 2, 29)},
		{noon(2024, 2, 29), api.Period{Years: -4}, noon(2020, 2, 29)},
		{noon(2024, 1, 31), api.Period{Months: 13}, noon(2025, 2, 28)},
		{noon(2024, 1, 15), api.Period{Months: -1}, noon(2023, 12, 15)},
		{noon(0, 1, 15), api.Period{Months: -25}, noon(-3, 12, 15)},
		{noon(2024, 1, 31), api.Period{Months: 1, Days: 1}, noon(2024, 3, 1)},
		{noon(2024, 1, 31), api.Period{Months: 1, Days: -29}, noon(2024, 1, 31)},
		{noon(2024, 1, 1), api.Period{Weeks: 2, Days: -3}, noon(2024, 1, 12)},
		{noon(2024, 1, 1), api.Period{Weeks: 1_000_000, Days: -7_000_001}, noon(2023, 12, 31)},
		{noon(2024, 1, 1), api.Period{Seconds: -43201}, local(2023, 12, 31, 23, 59, 59)},
		{noon(2024, 1, 1), api.Period{Seconds: 86400 + 3661}, local(2024, 1, 2, 13, 1, 1)},
		{noon(2024, 1, 31), api.Period{Months: 1, Seconds: 43200}, local(2024, 3, 1, 0, 0, 0)},
		{firstTime, api.Period{Seconds: api.MaxDay * api.Daily}, 0},
		{firstTime, api.Period{Days: 2 * api.MaxDay, Seconds: 86399}, lastTime},
		{lastTime, api.Period{Days: -2 * api.MaxDay, Seconds: -86399}, firstTime},
		{lastTime, api.Period{Months: -1, Days: 31}, lastTime},
	} {
		got, err := clock.Add(k.from, k.p)
		wantValue(t, at("2.2: Add(%d, %v)", k.from, k.p), got, err, k.want)
	}
}

func TestAddBeyond(t *testing.T) {
	const most = 1_000_000_000_000
	for _, n := range []int{math.MinInt, -most - 1, most + 1, math.MaxInt} {
		for _, p := range []api.Period{{Years: n}, {Months: n}, {Weeks: n}, {Days: n}, {Seconds: n}} {
			got, err := clock.Add(0, p)
			wantError(t, at("2.2: Add(0, %v)", p), got, err, api.ErrRange)
		}
	}
	for _, n := range []int{-most, most} {
		for _, p := range []api.Period{{Years: n}, {Months: n}, {Weeks: n}, {Days: n}, {Seconds: n}, {Years: n, Months: n, Weeks: n, Days: n, Seconds: n}} {
			got, err := clock.Add(0, p)
			wantError(t, at("2.2: Add(0, %v)", p), got, err, api.ErrRange)
		}
	}
	for _, x := range noTimes {
		got, err := clock.Add(x, api.Period{})
		wantError(t, at("2.2: Add(%d, nothing)", x), got, err, api.ErrRange)
		got, err = clock.Add(x, api.Period{Seconds: int(-x / 2)})
		wantError(t, at("2.2: Add(%d, back)", x), got, err, api.ErrRange)
	}
	for _, k := range []struct {
		from api.Local
		p    api.Period
	}{
		{lastTime, api.Period{Seconds: 1}}, {firstTime, api.Period{Seconds: -1}},
		{lastTime, api.Period{Days: 1, Seconds: -api.Daily}}, {firstTime, api.Period{Days: -1, Seconds: api.Daily}},
		{lastTime, api.Period{Weeks: 1, Seconds: -api.Daily * 7}},
		{lastTime, api.Period{Months: 1, Days: -31}}, {firstTime, api.Period{Months: -1, Weeks: 5}},
		{0, api.Period{Years: api.MaxYear}}, {0, api.Period{Years: -api.MaxYear, Days: 7 * api.MaxDay}},
	} {
		got, err := clock.Add(k.from, k.p)
		wantError(t, at("2.2: Add(%d, %v)", k.from, k.p), got, err, api.ErrRange)
	}
}

// added is what Go's library says of a time and a period, once a day that the month has not is mended.
func added(x api.Local, p api.Period) api.Local {
	u := time.Unix(int64(x), 0).UTC()
	month := time.Month(12*p.Years+p.Months) + u.Month()
	last := time.Date(u.Year(), month+1, 0, 0, 0, 0, 0, time.UTC).Day()
	day := min(u.Day(), last) + 7*p.Weeks + p.Days
	return api.Local(time.Date(u.Year(), month, day, u.Hour(), u.Minute(), u.Second(), 0, time.UTC).Unix()) + api.Local(p.Seconds)
}

func TestAddEverywhere(t *testing.T) {
	r := rand.New(rand.NewSource(3))
	part := func(most int) int { return r.Intn(2*most+1) - most }
	for _, x := range someTimes() {
		p := api.Period{Years: part(300), Months: part(40), Weeks: part(60), Days: part(800), Seconds: part(1_000_000)}
		if x < firstTime+400*366*api.Daily || x > lastTime-400*366*api.Daily {
			continue
		}
		got, err := clock.Add(x, p)
		wantValue(t, at("2.2: Add(%d, %v)", x, p), got, err, added(x, p))
	}
}

func TestSince(t *testing.T) {
	midnight := func(year, month, day int) api.Local { return local(year, month, day, 0, 0, 0) }
	for _, k := range []struct {
		a, b api.Local
		want api.Period
	}{
		{0, 0, api.Period{}},
		{0, 1, api.Period{Seconds: 1}},
		{midnight(2024, 1, 31), midnight(2024, 2, 29), api.Period{Months: 1}},
		{midnight(2024, 1, 31), midnight(2024, 2, 29) - 1, api.Period{Days: 28, Seconds: 86399}},
		{midnight(2024, 1, 31), midnight(2024, 3, 30), api.Period{Months: 1, Days: 30}},
		{midnight(2024, 1, 31), midnight(2024, 3, 31), api.Period{Months: 2}},
		{midnight(2024, 2, 29), midnight(2025, 2, 28), api.Period{Years: 1}},
		{midnight(2024, 2, 29), midnight(2025, 2, 27), api.Period{Months: 11, Days: 29}},
		{midnight(2024, 2, 29), midnight(2028, 2, 29), api.Period{Years: 4}},
		{midnight(2024, 1, 1), midnight(2024, 1, 31), api.Period{Days: 30}},
		{local(2024, 5, 5, 12, 0, 0), local(2024, 7, 5, 11, 59, 59), api.Period{Months: 1, Days: 29, Seconds: 86399}},
		{midnight(-1, 12, 31), midnight(1, 1, 1), api.Period{Years: 1, Days: 1}},
		{local(12921, 7, 31, 1, 0, 0), lastTime, api.Period{Days: 18, Seconds: 82799}},
		{local(12921, 7, 18, 0, 0, 0), lastTime, api.Period{Months: 1, Seconds: 86399}},
	} {
		got, err := clock.Since(k.a, k.b)
		wantValue(t, at("2.2: Since(%d, %d)", k.a, k.b), got, err, k.want)
	}
}

func TestSinceFaults(t *testing.T) {
	for _, x := range noTimes {
		got, err := clock.Since(x, 0)
		wantError(t, at("2.2: Since(%d, 0)", x), got, err, api.ErrRange)
		got, err = clock.Since(0, x)
		wantError(t, at("2.2: Since(0, %d)", x), got, err, api.ErrRange)
	}
	for _, k := range [][2]api.Local{{1, 0}, {lastTime, firstTime}, {86400, 86399}} {
		got, err := clock.Since(k[0], k[1])
		wantError(t, at("2.2: Since(%d, %d)", k[0], k[1]), got, err, api.ErrOrder)
	}
}

// TestSinceEverywhere asks what 2.2 asks of a period: its bounds, that no month more would do, and that Add goes back.
func TestSinceEverywhere(t *testing.T) {
	l := someTimes()
	r := rand.New(rand.NewSource(4))
	for _, a := range l {
		b := l[r.Intn(len(l))]
		if r.Intn(2) == 0 {
			b = min(lastTime, a+api.Local(r.Intn(800*api.Daily)))
		}
		a, b := min(a, b), max(a, b)
		p, err := clock.Since(a, b)
		if err != nil {
			t.Fatalf("2.2: Since(%d, %d): %v", a, b, err)
		}
		if p.Years < 0 || p.Months < 0 || p.Months > 11 || p.Weeks != 0 || p.Days < 0 || p.Seconds < 0 || p.Seconds > 86399 {
			t.Errorf("2.2: Since(%d, %d): %v", a, b, p)
		}
		if got := mustAdd(t, a, p); got != b {
			t.Errorf("2.2: Add(%d, %v): %d; Since was asked for %d", a, p, got, b)
		}
		more, err := clock.Add(a, api.Period{Years: p.Years, Months: p.Months + 1})
		if err == nil && more <= b {
			t.Errorf("2.2: Since(%d, %d): %v; a month more would do", a, b, p)
		}
	}
}
