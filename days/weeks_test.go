package days_test

import (
	"math"
	"testing"
	"time"

	"almanac/api"
	"almanac/days"
)

// asTime is a day as Go's library tells it, which counts Gregorian dates and weeks on its own.
func asTime(day int) time.Time { return time.Unix(int64(day)*api.Daily, 0).UTC() }

// someDays are days all over, those at the ends, and all those of our years.
func someDays() []int {
	var l []int
	for day := -api.MaxDay; day <= api.MaxDay; day += 97 {
		l = append(l, day)
	}
	for i := range 1000 {
		l = append(l, -api.MaxDay+i, api.MaxDay-i)
	}
	for day := -20000; day < 30000; day++ {
		l = append(l, day)
	}
	return l
}

func TestGregorianByLibrary(t *testing.T) {
	for _, day := range someDays() {
		y, m, d := asTime(day).Date()
		got, err := days.Of(api.Gregorian, day)
		wantValue(t, at("1.2: Of(1, %d)", day), got, err, api.Date{Cal: api.Gregorian, Year: y, Month: int(m), Day: d})
	}
}

func TestWeekday(t *testing.T) {
	for _, day := range someDays() {
		want := int(asTime(day).Weekday()+6)%7 + 1
		wantValue(t, at("1.5: Weekday(%d)", day), days.Weekday(day), nil, want)
	}
	for day, want := range map[int]int{0: 4, 19999: 4, -1: 3, 4: 1, 3: 7, math.MaxInt: 4, math.MaxInt - 1: 3, math.MaxInt - 3: 1, math.MaxInt - 4: 7, math.MaxInt - 7: 4, math.MinInt: 3, math.MinInt + 1: 4, math.MinInt + 4: 7, math.MinInt + 5: 1, math.MinInt + 7: 3} {
		wantValue(t, at("1.5: Weekday(%d)", day), days.Weekday(day), nil, want)
	}
}

func TestWeek(t *testing.T) {
	for _, day := range someDays() {
		y, w := asTime(day).ISOWeek()
		year, week, weekday, err := days.Week(day)
		wantValue(t, at("1.5: Week(%d)", day), [3]int{year, week, weekday}, err, [3]int{y, w, days.Weekday(day)})
		back, err := days.OfWeek(year, week, weekday)
		wantValue(t, at("1.5: OfWeek(%d, %d, %d)", year, week, weekday), back, err, day)
	}
	year, week, weekday, err := days.Week(mustDay(t, api.Gregorian, 2024, 12, 30))
	wantValue(t, at("1.5: Week of 2024-12-30"), [3]int{year, week, weekday}, err, [3]int{2025, 1, 1})
	year, week, weekday, err = days.Week(mustDay(t, api.Gregorian, 2021, 1, 3))
	wantValue(t, at("1.5: Week of 2021-01-03"), [3]int{year, week, weekday}, err, [3]int{2020, 53, 7})
	for _, day := range noDays {
		year, week, weekday, err := days.Week(day)
		wantError(t, at("1.5: Week(%d)", day), [3]int{year, week, weekday}, err, api.ErrRange)
	}
}

func TestWeeks(t *testing.T) {
	for y := -api.MaxYear; y <= api.MaxYear; y++ {
		_, want := time.Date(y, 12, 28, 0, 0, 0, 0, time.UTC).ISOWeek()
		n, err := days.Weeks(y)
		wantValue(t, at("1.5: Weeks(%d)", y), n, err, want)
	}
	for _, y := range noYears {
		n, err := days.Weeks(y)
		wantError(t, at("1.5: Weeks(%d)", y), n, err, api.ErrRange)
	}
}

func TestOfWeek(t *testing.T) {
	n, err := days.OfWeek(2024, 28, 1)
	wantValue(t, at("1.5: OfWeek(2024, 28, 1)"), n, err, mustDay(t, api.Gregorian, 2024, 7, 8))
	n, err = days.OfWeek(2020, 53, 7)
	wantValue(t, at("1.5: OfWeek(2020, 53, 7)"), n, err, mustDay(t, api.Gregorian, 2021, 1, 3))
	for _, y := range noYears {
		for _, week := range []int{1, 0} {
			n, err := days.OfWeek(y, week, 1)
			wantError(t, at("1.5: OfWeek(%d, %d, 1)", y, week), n, err, api.ErrRange)
		}
	}
	for _, y := range []int{-api.MaxYear, 2024, api.MaxYear} {
		weeks, _ := days.Weeks(y)
		for _, x := range [][2]int{{0, 1}, {-1, 1}, {weeks + 1, 1}, {math.MinInt, 1}, {math.MaxInt, 1}, {1, 0}, {1, 8}, {1, math.MinInt}, {weeks, math.MaxInt}} {
			n, err := days.OfWeek(y, x[0], x[1])
			wantError(t, at("1.5: OfWeek(%d, %d, %d)", y, x[0], x[1]), n, err, api.ErrDate)
		}
	}
	for _, end := range []int{-api.MaxDay, api.MaxDay} {
		year, week, weekday, err := days.Week(end)
		if err != nil {
			t.Fatal(err)
		}
		step := map[bool]int{true: -1, false: 1}[end < 0]
		if w := weekday + step; w >= 1 && w <= 7 {
			n, err := days.OfWeek(year, week, w)
			wantError(t, at("1.5: OfWeek(%d, %d, %d)", year, week, w), n, err, api.ErrRange)
		}
		n, err := days.OfWeek(year, week+step, weekday)
		wantError(t, at("1.5: OfWeek(%d, %d, %d)", year, week+step, weekday), n, err, api.ErrRange)
	}
	for _, y := range []int{-api.MaxYear, api.MaxYear} {
		n, err := days.OfWeek(y, 1, 1)
		wantError(t, at("1.5: OfWeek(%d, 1, 1)", y), n, err, api.ErrRange)
	}
}
