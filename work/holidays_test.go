package work_test

import (
	"math"
	"math/rand"
	"reflect"
	"slices"
	"testing"

	"almanac/api"
	"almanac/days"
	"almanac/work"
)

// Promise 8.2.

// wantHolidays says whether a holiday goes to these days, of a year in which it would be.
func wantHolidays(t *testing.T, x api.Holiday, year int, want ...string) {
	t.Helper()
	got, err := work.Holidays(api.Hours{Holidays: []api.Holiday{ever(x)}}, year)
	if err != nil || !slices.Equal(got, daysOf(want...)) {
		t.Errorf("8.2: Holidays(%+v, %d): %v, %v; %v is wanted: %v", x, year, got, err, want, daysOf(want...))
	}
}

func TestOnDate(t *testing.T) {
	christmas := api.Holiday{Kind: api.OnDate, Cal: api.Gregorian, Month: 12, Day: 25}
	wantHolidays(t, christmas, 2024, "2024-12-25")
	wantHolidays(t, christmas, 1, "0001-12-25")
	wantHolidays(t, christmas, 9999, "9999-12-25")
	leap := api.Holiday{Kind: api.OnDate, Cal: api.Gregorian, Month: 2, Day: 29}
	wantHolidays(t, leap, 2024, "2024-02-29")
	wantHolidays(t, leap, 2023)
	wantHolidays(t, api.Holiday{Kind: api.OnDate, Cal: api.Gregorian, Month: 13, Day: 1}, 2024)
	wantHolidays(t, api.Holiday{Kind: api.OnDate, Cal: api.Gregorian, Month: 4, Day: 31}, 2024)
	wantHolidays(t, api.Holiday{Kind: api.OnDate, Cal: api.Julian, Month: 12, Day: 25}, 2024, "2024-01-07")
	wantHolidays(t, api.Holiday{Kind: api.OnDate, Cal: api.Coptic, Month: 1, Day: 1}, 2024, "2024-09-11")
	wantHolidays(t, api.Holiday{Kind: api.OnDate, Cal: api.Hebrew, Month: 1, Day: 1}, 2024, "2024-10-03")
	wantHolidays(t, api.Holiday{Kind: api.OnDate, Cal: api.Persian, Month: 1, Day: 1}, 2024, "2024-03-20")
	// Where years are shorter a year of ours may have a day twice, or, if they are as long, none.
	wantHolidays(t, api.Holiday{Kind: api.OnDate, Cal: api.Islamic, Month: 1, Day: 1}, 2008, "2008-01-10", "2008-12-29")
	wantHolidays(t, api.Holiday{Kind: api.OnDate, Cal: api.Islamic, Month: 12, Day: 30}, 2024, "2024-07-07")
	wantHolidays(t, api.Holiday{Kind: api.OnDate, Cal: api.Islamic, Month: 12, Day: 30}, 2023)
	first, _ := days.Of(api.Egyptian, day("2024-01-01"))
	twice := api.Holiday{Kind: api.OnDate, Cal: api.Egyptian, Month: first.Month, Day: first.Day}
	wantHolidays(t, twice, 2024, "2024-01-01", "2024-12-31")
	wantHolidays(t, twice, 2025, "2025-12-31")
	next, _ := days.Of(api.Egyptian, day("2025-01-01"))
	wantHolidays(t, api.Holiday{Kind: api.OnDate, Cal: api.Egyptian, Month: next.Month, Day: next.Day}, 2024, "2024-01-02")
}

func TestOnNth(t *testing.T) {
	wantHolidays(t, api.Holiday{Kind: api.OnNth, Month: 11, N: 4, Weekday: 4}, 2024, "2024-11-28")
	wantHolidays(t, api.Holiday{Kind: api.OnNth, Month: 5, N: -1, Weekday: 1}, 2024, "2024-05-27")
	wantHolidays(t, api.Holiday{Kind: api.OnNth, Month: 12, N: -1, Weekday: 2}, 2024, "2024-12-31")
	wantHolidays(t, api.Holiday{Kind: api.OnNth, Month: 12, N: 5, Weekday: 2}, 2024, "2024-12-31")
	wantHolidays(t, api.Holiday{Kind: api.OnNth, Month: 12, N: -5, Weekday: 2}, 2024, "2024-12-03")
	wantHolidays(t, api.Holiday{Kind: api.OnNth, Month: 12, N: -5, Weekday: 3}, 2024)
	wantHolidays(t, api.Holiday{Kind: api.OnNth, Month: 12, N: 5, Weekday: 3}, 2024)
	wantHolidays(t, api.Holiday{Kind: api.OnNth, Month: 1, N: 1, Weekday: 1}, 2024, "2024-01-01")
	wantHolidays(t, api.Holiday{Kind: api.OnNth, Month: 2, N: 5, Weekday: 4}, 2024, "2024-02-29")
	wantHolidays(t, api.Holiday{Kind: api.OnNth, Month: 2, N: -5, Weekday: 4}, 2024, "2024-02-01")
	wantHolidays(t, api.Holiday{Kind: api.OnNth, Month: 2, N: 5, Weekday: 4}, 2023)
	wantHolidays(t, api.Holiday{Kind: api.OnNth, Month: 12, N: -1, Weekday: 5}, 9999, "9999-12-31")
	wantHolidays(t, api.Holiday{Kind: api.OnNth, Month: 1, N: 1, Weekday: 1}, 1, "0001-01-01")
}

func TestOnEaster(t *testing.T) {
	wantHolidays(t, api.Holiday{Kind: api.OnWest}, 2024, "2024-03-31")
	wantHolidays(t, api.Holiday{Kind: api.OnWest, Offset: 1}, 2024, "2024-04-01")
	wantHolidays(t, api.Holiday{Kind: api.OnWest, Offset: -2}, 2024, "2024-03-29")
	wantHolidays(t, api.Holiday{Kind: api.OnWest, Offset: 60}, 2024, "2024-05-30")
	wantHolidays(t, api.Holiday{Kind: api.OnEast}, 2024, "2024-05-05")
	wantHolidays(t, api.Holiday{Kind: api.OnEast, Offset: 1}, 2024, "2024-05-06")
	// In the year of its Easter, wherever it is itself.
	wantHolidays(t, api.Holiday{Kind: api.OnWest, Offset: -100}, 2024, "2023-12-22")
	wantHolidays(t, api.Holiday{Kind: api.OnWest, Offset: -100}, 2023, "2022-12-30")
}

func TestMoves(t *testing.T) {
	on := func(month, day, moves int) api.Holiday {
		return api.Holiday{Kind: api.OnDate, Cal: api.Gregorian, Month: month, Day: day, Moves: moves}
	}
	for year, want := range map[int][3]string{
		2020: {"2020-12-25", "2020-12-25", "2020-12-25"}, // a Friday
		2021: {"2021-12-25", "2021-12-27", "2021-12-24"}, // a Saturday
		2022: {"2022-12-25", "2022-12-26", "2022-12-26"}, // a Sunday
		2023: {"2023-12-25", "2023-12-25", "2023-12-25"}, // a Monday
	} {
		for moves, w := range want {
			wantHolidays(t, on(12, 25, moves), year, w)
		}
	}
	// Into the next year, and the one ahead: it is of the year in which it would be.
	wantHolidays(t, on(1, 1, api.Nearest), 2022, "2021-12-31")
	wantHolidays(t, on(1, 1, api.Nearest), 2021, "2021-01-01")
	wantHolidays(t, on(12, 31, api.Monday), 2022, "2023-01-02")
	wantHolidays(t, on(12, 31, api.Monday), 2023, "2024-01-01")
	wantHolidays(t, api.Holiday{Kind: api.OnWest, Moves: api.Monday}, 2024, "2024-04-01")
	wantHolidays(t, api.Holiday{Kind: api.OnNth, Month: 12, N: -1, Weekday: 6, Moves: api.Nearest}, 2024, "2024-12-27")
}

// TestYears: a holiday is one of its years alone.
func TestYears(t *testing.T) {
	for _, x := range kinds() {
		x.From, x.To = 2000, 2003
		if x.Kind == api.OnDate {
			x.Month, x.Day = 2, 1
		}
		if x.Kind == api.OnNth {
			x.N = 1
		}
		for year := 1995; year < 2010; year++ {
			l, err := work.Holidays(api.Hours{Holidays: []api.Holiday{x}}, year)
			if err != nil || len(l) > 0 != (year >= 2000 && year <= 2003) {
				t.Errorf("8.2: Holidays(%+v, %d): %v, %v", x, year, l, err)
			}
		}
	}
	for _, year := range []int{math.MinInt, -1, 0, 10_000, math.MaxInt} {
		l, err := work.Holidays(api.Hours{Holidays: []api.Holiday{ever(kinds()[2])}}, year)
		wantError(t, at("8.2: Holidays of %d", year), l, err, api.ErrRange)
	}
}

// TestRising: what goes to one day is told once, and all of it rises.
func TestRising(t *testing.T) {
	h := api.Hours{Holidays: []api.Holiday{
		ever(api.Holiday{Kind: api.OnDate, Cal: api.Gregorian, Month: 12, Day: 26, Moves: api.Monday}),
		ever(api.Holiday{Kind: api.OnDate, Cal: api.Gregorian, Month: 12, Day: 25, Moves: api.Monday}),
		ever(api.Holiday{Kind: api.OnWest, Offset: 1}),
		ever(api.Holiday{Kind: api.OnWest, Moves: api.Nearest}),
	}}
	got, err := work.Holidays(h, 2021)
	wantValue(t, at("8.2: Holidays of 2021"), got, err, daysOf("2021-04-05", "2021-12-27"))
	got, err = work.Holidays(h, 2023)
	wantValue(t, at("8.2: Holidays of 2023"), got, err, daysOf("2023-04-10", "2023-12-25", "2023-12-26"))
	got, err = work.Holidays(api.Hours{}, 2023)
	if len(got) > 0 || err != nil {
		t.Errorf("8.2: Holidays without holidays: %v, %v", got, err)
	}
}

func TestDrawnHolidays(t *testing.T) {
	r := rand.New(rand.NewSource(82))
	for i := range 200 {
		year := []int{1 + r.Intn(9999), 1900 + r.Intn(300), 1 + r.Intn(3), 9999 - r.Intn(3)}[i%4]
		h := drawnHours(r, year)
		got, err := work.Holidays(h, year)
		if want := modelHolidays(h, year); err != nil || !slices.Equal(got, want) {
			t.Errorf("8.2: Holidays(%+v, %d): %v, %v; %v is wanted", h.Holidays, year, got, err, want)
		}
	}
}

// TestNearYears: no holiday goes further than into a year next to its own, so days of years 2 to 9998 have all of theirs.
func TestNearYears(t *testing.T) {
	for _, kind := range []int{api.OnWest, api.OnEast} {
		for _, offset := range []int{-100, 100} {
			for _, moves := range []int{api.Monday, api.Nearest} {
				h := always(ever(api.Holiday{Kind: kind, Offset: offset, Moves: moves}))
				for year := 1; year <= 9999; year++ {
					l, err := work.Holidays(h, year)
					if err != nil || len(l) != 1 {
						t.Fatalf("8.2: Holidays(%+v, %d): %v, %v", h.Holidays, year, l, err)
					}
					if y := date(l[0]).Year(); y < year-1 || y > year+1 {
						t.Fatalf("8.2: %+v of year %d goes to year %d", h.Holidays, year, y)
					}
					if year%10 == 0 {
						spans, err := work.Day(h, l[0])
						wantValue(t, at("8.3: Day of %+v of year %d", h.Holidays, year), spans, err, nil)
					}
				}
			}
		}
	}
}

// TestNextYear: what would be in the last days of a year goes into the next one, and is a holiday there.
func TestNextYear(t *testing.T) {
	for year := 1; year < 9999; year++ {
		h := always(ever(api.Holiday{Kind: api.OnDate, Cal: api.Gregorian, Month: 12, Day: 31, Moves: api.Monday}))
		l, err := work.Holidays(h, year)
		if err != nil || len(l) != 1 {
			t.Fatalf("8.2: Holidays(%d): %v, %v", year, l, err)
		}
		if date(l[0]).Year() == year {
			continue
		}
		spans, err := work.Day(h, l[0])
		wantValue(t, at("8.3: Day of 31 December %d, moved", year), spans, err, nil)
		spans, err = work.Day(h, l[0]-1)
		wantValue(t, at("8.3: Day ahead of 31 December %d, moved", year), spans, err, h.Week[0])
	}
}

// TestEndsOfYears: the first and the last day of a year are days of it, whatever they are called.
func TestEndsOfYears(t *testing.T) {
	for cal := api.Gregorian; cal <= api.Egyptian; cal++ {
		for year := 1; year <= 9999; year++ {
			for _, d := range []int{dayOfDate(year, 1, 1), dayOfDate(year, 12, 31)} {
				of, err := days.Of(cal, d)
				if err != nil {
					t.Fatal(err)
				}
				x := ever(api.Holiday{Kind: api.OnDate, Cal: cal, Month: of.Month, Day: of.Day})
				l, err := work.Holidays(api.Hours{Holidays: []api.Holiday{x}}, year)
				if err != nil || !slices.Contains(l, d) {
					t.Fatalf("8.2: Holidays(%+v, %d): %v, %v; %d is wanted, too", x, year, l, err, d)
				}
			}
		}
	}
}

// TestFreshMemory: what is handed in stays as it is, and what comes out is the caller's.
func TestFreshMemory(t *testing.T) {
	fresh := func() api.Hours { return week(office(), kinds()...) }
	h := fresh()
	a, err := work.Day(h, day("2024-07-08"))
	wantValue(t, at("8.3: Day"), a, err, office())
	a[0] = api.Span{}
	_ = append(a, a...)
	l, err := work.Holidays(h, 2000)
	if err != nil || len(l) == 0 {
		t.Fatal(l, err)
	}
	l[0] = 0
	if !reflect.DeepEqual(h, fresh()) {
		t.Errorf("P4: %+v became %+v", fresh(), h)
	}
	b, err := work.Day(h, day("2024-07-08"))
	wantValue(t, at("P4: Day, once more"), b, err, office())
	again, err := work.Holidays(h, 2000)
	if err != nil || again[0] == 0 {
		t.Errorf("P4: Holidays, once more: %v, %v", again, err)
	}
}
