package work_test

import (
	"math"
	"math/rand"
	"testing"

	"almanac/api"
	"almanac/work"
)

// Promise 8.3.

func TestDay(t *testing.T) {
	h := week(office(),
		ever(api.Holiday{Kind: api.OnWest, Offset: 1}),
		ever(api.Holiday{Kind: api.OnDate, Cal: api.Gregorian, Month: 1, Day: 1, Moves: api.Nearest}),
		ever(api.Holiday{Kind: api.OnDate, Cal: api.Gregorian, Month: 12, Day: 31, Moves: api.Monday}))
	h.Week[5] = []api.Span{{From: 600, To: 660}}
	for text, want := range map[string][]api.Span{
		"2024-07-08": office(),
		"2024-07-12": office(),
		"2024-07-13": h.Week[5],
		"2024-07-14": nil,
		"2024-04-01": nil,
		"2024-04-02": office(),
		// Holidays of the years ahead and behind.
		"2021-12-31": nil,
		"2023-01-02": nil,
		"2022-01-03": office(),
		// A Saturday to which one does not go.
		"2022-01-01": h.Week[5],
		"2022-12-31": h.Week[5],
		"0002-01-02": office(),
		"9998-12-30": office(),
	} {
		got, err := work.Day(h, day(text))
		wantValue(t, at("8.3: Day of %s", text), got, err, want)
	}
}

func TestDaysThatAreNotThere(t *testing.T) {
	h := always()
	for _, d := range []int{firstDay, lastDay} {
		got, err := work.Day(h, d)
		wantValue(t, at("8.3: Day(%d)", d), got, err, h.Week[0])
	}
	for _, d := range noDays {
		spans, err := work.Day(h, d)
		wantError(t, at("8.3: Day(%d)", d), spans, err, api.ErrRange)
		for _, n := range []int{-1, 0, 1} {
			day, err := work.Add(h, d, n)
			wantError(t, at("8.3: Add(%d, %d)", d, n), day, err, api.ErrRange)
		}
		many, err := work.Count(h, d, d)
		wantError(t, at("8.3: Count(%d, %d)", d, d), many, err, api.ErrRange)
		for _, ok := range []int{firstDay, 0, lastDay} {
			many, err := work.Count(h, min(d, ok), max(d, ok))
			wantError(t, at("8.3: Count of %d and %d", d, ok), many, err, api.ErrRange)
			many, err = work.Count(h, max(d, ok), min(d, ok))
			wantError(t, at("8.3: Count of %d and %d, turned round", d, ok), many, err, api.ErrOrder)
		}
	}
}

func TestAdd(t *testing.T) {
	h := week(office(), ever(api.Holiday{Kind: api.OnWest, Offset: 1}))
	for _, c := range []struct {
		from string
		n    int
		want string
	}{
		{"2024-07-08", 0, "2024-07-08"},
		{"2024-07-08", 1, "2024-07-09"},
		{"2024-07-08", -1, "2024-07-05"},
		{"2024-07-12", 1, "2024-07-15"},
		{"2024-07-13", 0, "2024-07-15"},
		{"2024-07-13", 1, "2024-07-15"},
		{"2024-07-13", -1, "2024-07-12"},
		{"2024-07-13", 2, "2024-07-16"},
		{"2024-07-08", 5, "2024-07-15"},
		{"2024-07-08", -5, "2024-07-01"},
		{"2024-03-30", 0, "2024-04-02"},
		{"2024-03-29", 1, "2024-04-02"},
		{"2024-04-02", -1, "2024-03-29"},
		{"2024-04-01", -1, "2024-03-29"},
	} {
		got, err := work.Add(h, day(c.from), c.n)
		wantValue(t, at("8.3: Add(%s, %d)", c.from, c.n), got, err, day(c.want))
	}
}

// onlyThursday are hours of which the 29 February alone has work, where it is a Thursday: in 1996, 2024, 2052.
func onlyThursday() api.Hours {
	var h api.Hours
	h.Week[3] = office()
	for month := 1; month <= 12; month++ {
		for _, n := range []int{1, 2, 3, 4, -1} {
			if month != 2 || n > 0 {
				h.Holidays = append(h.Holidays, ever(api.Holiday{Kind: api.OnNth, Month: month, N: n, Weekday: 4}))
			}
		}
	}
	return h
}

func TestMostDays(t *testing.T) {
	all := always()
	for _, c := range []struct{ from, n, want int }{
		{0, 4000, 4000},
		{0, -4000, -4000},
		{firstDay, 4000, firstDay + 4000},
		{lastDay, -4000, lastDay - 4000},
		{lastDay - 4000, 4000, lastDay},
		{firstDay + 4000, -4000, firstDay},
		{firstDay, 0, firstDay},
		{lastDay, 0, lastDay},
	} {
		got, err := work.Add(all, c.from, c.n)
		wantValue(t, at("8.3: Add(%d, %d)", c.from, c.n), got, err, c.want)
	}
	for _, n := range []int{4001, -4001, math.MinInt, math.MinInt + 1, math.MaxInt} {
		got, err := work.Add(all, 0, n)
		wantError(t, at("8.3: Add(0, %d)", n), got, err, api.ErrRange)
	}
	// None behind the 4000th, and ErrRange where the years end ahead of that.
	for _, c := range []struct {
		from, n int
		want    api.Errno
	}{
		{0, 0, api.ErrNone}, {0, 1, api.ErrNone}, {0, -1, api.ErrNone}, {0, 4000, api.ErrNone},
		{lastDay - 4000, 1, api.ErrNone}, {lastDay - 3999, 1, api.ErrRange},
		{lastDay - 3999, 0, api.ErrNone}, {lastDay - 3998, 0, api.ErrRange},
		{firstDay + 4000, -1, api.ErrNone}, {firstDay + 3999, -1, api.ErrRange},
		{lastDay, 1, api.ErrRange}, {firstDay, -1, api.ErrRange}, {lastDay, 0, api.ErrRange}, {firstDay, 0, api.ErrNone},
	} {
		got, err := work.Add(api.Hours{}, c.from, c.n)
		wantError(t, at("8.3: Add(%d, %d) without work", c.from, c.n), got, err, c.want)
	}
	got, err := work.Add(all, lastDay-10, 11)
	wantError(t, at("8.3: Add beyond the last day"), got, err, api.ErrRange)
	got, err = work.Add(all, firstDay+10, -11)
	wantError(t, at("8.3: Add ahead of the first day"), got, err, api.ErrRange)
}

// TestTheLastOfMostDays: the one day with work is the 4000th that is gone through, or the one behind it.
func TestTheLastOfMostDays(t *testing.T) {
	h, d := onlyThursday(), day("2024-02-29")
	for _, x := range []struct{ off, n int }{{-4000, 1}, {-3999, 0}, {4000, -1}, {-1, 1}, {0, 0}, {1, -1}} {
		got, err := work.Add(h, d+x.off, x.n)
		wantValue(t, at("8.3: Add(%d, %d)", d+x.off, x.n), got, err, d)
	}
	for _, x := range []struct{ off, n int }{{-4001, 1}, {-4000, 0}, {4001, -1}, {0, 1}, {0, -1}, {1, 0}, {-4000, 2}} {
		got, err := work.Add(h, d+x.off, x.n)
		wantError(t, at("8.3: Add(%d, %d)", d+x.off, x.n), got, err, api.ErrNone)
	}
}

func TestCount(t *testing.T) {
	h := week(office(), ever(api.Holiday{Kind: api.OnWest, Offset: 1}))
	for _, c := range []struct {
		from, to string
		want     int
	}{
		{"2024-07-08", "2024-07-08", 0},
		{"2024-07-08", "2024-07-09", 1},
		{"2024-07-08", "2024-07-15", 5},
		{"2024-07-13", "2024-07-15", 0},
		{"2024-07-12", "2024-07-16", 2},
		{"2024-03-29", "2024-04-02", 1},
		{"2024-01-01", "2025-01-01", 261},
	} {
		got, err := work.Count(h, day(c.from), day(c.to))
		wantValue(t, at("8.3: Count(%s, %s)", c.from, c.to), got, err, c.want)
	}
	all := always()
	for _, from := range []int{0, firstDay, lastDay - 4000} {
		got, err := work.Count(all, from, from+4000)
		wantValue(t, at("8.3: Count of 4000 days from %d on", from), got, err, 4000)
	}
	got, err := work.Count(all, 0, 4001)
	wantError(t, at("8.3: Count of 4001 days"), got, err, api.ErrRange)
	got, err = work.Count(all, firstDay, lastDay)
	wantError(t, at("8.3: Count of all days"), got, err, api.ErrRange)
	for _, c := range [][2]int{{1, 0}, {0, -1}, {5000, 0}, {math.MaxInt, math.MinInt}, {lastDay + 1, lastDay}, {firstDay, firstDay - 1}} {
		got, err := work.Count(all, c[0], c[1])
		wantError(t, at("8.3: Count(%d, %d)", c[0], c[1]), got, err, api.ErrOrder)
	}
	got, err = work.Count(all, math.MinInt, math.MaxInt)
	wantError(t, at("8.3: Count of more than all days"), got, err, api.ErrRange)
}

// someYear draws a year, often one at the ends of those of which days are asked.
func someYear(r *rand.Rand) int {
	switch r.Intn(4) {
	case 0:
		return 2 + r.Intn(12)
	case 1:
		return 9998 - r.Intn(12)
	case 2:
		return 2 + r.Intn(9997)
	}
	return 1950 + r.Intn(200)
}

// dayIn draws a day of a year.
func dayIn(r *rand.Rand, year int) int {
	return min(max(firstDay+(year-2)*36525/100+r.Intn(366), firstDay), lastDay)
}

// TestDrawnDays: days are those of the model, and days that are added are days that are counted.
func TestDrawnDays(t *testing.T) {
	r := rand.New(rand.NewSource(83))
	for range 60 {
		year := someYear(r)
		h := drawnHours(r, year)
		m := modelOf(h, year)
		for range 20 {
			d := dayIn(r, year)
			spans, err := work.Day(h, d)
			wantValue(t, at("8.3: Day(%+v, %d)", h, d), len(spans), err, len(m.spans(d)))
			n := []int{0, 1, -1, r.Intn(60) - 30, r.Intn(8001) - 4000}[r.Intn(5)]
			wantAdded(t, m, d, n)
		}
	}
}

// wantAdded says whether Add and Count answer what the model does.
func wantAdded(t *testing.T, m model, d, n int) {
	t.Helper()
	got, err := work.Add(m.hours, d, n)
	want, wrong := m.add(d, n)
	if got != want || err != wrong {
		t.Errorf("8.3: Add(%+v, %d, %d): %d, %v; %d, %v is wanted", m.hours, d, n, got, err, want, wrong)
	}
	if err != nil {
		return
	}
	// The n-th day behind a day has n - 1 others between; the n-th ahead of it, too.
	from, to, between := d+1, got, n-1
	if n < 0 {
		from, to, between = got+1, d, -n-1
	}
	if n == 0 {
		from, to, between = d, got, 0
	}
	many, err := work.Count(m.hours, from, to)
	wantValue(t, at("8.3: Count(%+v, %d, %d)", m.hours, from, to), many, err, between)
	works := 0
	for x := from; x < to; x++ {
		if m.works(x) {
			works++
		}
	}
	wantValue(t, at("8.3: the model's days from %d up to %d", from, to), many, nil, works)
}
