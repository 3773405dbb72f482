package work_test

import (
	"errors"
	"fmt"
	"math"
	"math/rand"
	"reflect"
	"testing"
	"time"

	"almanac/api"
	"almanac/work"
)

const (
	hour       = 3600
	firstDay   = -718_797  // 1 January of year 2
	lastDay    = 2_932_531 // 31 December of year 9998
	mostDays   = 4000
	firstTime  = api.Local(-api.MaxDay * api.Daily)
	lastTime   = api.Local(api.MaxTime)
	firstOfAll = api.Local(firstDay * api.Daily)
	endOfAll   = api.Local((lastDay + 1) * api.Daily)
)

// noDays are days of which nothing is asked: of other years, or of none.
var noDays = []int{math.MinInt, -api.MaxDay - 1, -api.MaxDay, firstDay - 1, lastDay + 1, api.MaxDay, api.MaxDay + 1, math.MaxInt}

// noTimes are times of which nothing is asked.
var noTimes = []api.Local{math.MinInt, firstTime - 1, firstTime, firstOfAll - 1, endOfAll, lastTime, lastTime + 1, math.MaxInt}

// at tells where a test is; only what fails asks for it.
func at(format string, args ...any) func() string {
	return func() string { return fmt.Sprintf(format, args...) }
}

// wantError says whether a call told this error, without a place, and else its zero value.
func wantError[T any](t *testing.T, what func() string, got T, err error, want api.Errno) {
	t.Helper()
	var zero T
	if !errors.Is(err, want) || err != want || !reflect.DeepEqual(got, zero) {
		t.Errorf("%s: %v, %v; error %d is wanted, without a place, and the zero value", what(), got, err, want)
	}
}

// wantValue says whether a call answered this, and no error.
func wantValue[T any](t *testing.T, what func() string, got T, err error, want T) {
	t.Helper()
	if err != nil || !reflect.DeepEqual(got, want) {
		t.Errorf("%s: %v, %v; %v is wanted", what(), got, err, want)
	}
}

// wantAllSay says whether all calls that are given hours tell this error, ahead of what is wrong with the rest.
func wantAllSay(t *testing.T, h api.Hours, want api.Errno) {
	t.Helper()
	if err := work.Check(h); err != want {
		t.Errorf("8.1: Check(%+v): %v; error %d is wanted", h, err, want)
	}
	for _, n := range []int{1, math.MaxInt} {
		l, err := work.Holidays(h, n)
		wantError(t, at("8.1: Holidays(%+v, %d)", h, n), l, err, want)
		spans, err := work.Day(h, n)
		wantError(t, at("8.1: Day(%+v, %d)", h, n), spans, err, want)
		day, err := work.Add(h, n, n)
		wantError(t, at("8.1: Add(%+v, %d)", h, n), day, err, want)
		many, err := work.Count(h, n, 0)
		wantError(t, at("8.1: Count(%+v, %d)", h, n), many, err, want)
		seconds, err := work.Between(h, api.Local(n), 0)
		wantError(t, at("8.1: Between(%+v, %d)", h, n), seconds, err, want)
		after, err := work.After(h, api.Local(n), -1)
		wantError(t, at("8.1: After(%+v, %d)", h, n), after, err, want)
	}
}

// day is one that is written as 2024-07-08, as the library of Go reads it.
func day(text string) int {
	d, err := time.Parse("2006-01-02", text)
	if err != nil {
		panic(err)
	}
	return int(d.Unix()) / api.Daily
}

// daysOf are some that are written so.
func daysOf(texts ...string) []int {
	var l []int
	for _, x := range texts {
		l = append(l, day(x))
	}
	return l
}

// dayOfDate is the day of a date, as the library of Go reckons it.
func dayOfDate(year, month, day int) int {
	return dayOf(int(time.Date(year, time.Month(month), day, 0, 0, 0, 0, time.UTC).Unix()))
}

// local is a time that is written as 2024-07-08T12:30:00.
func local(text string) api.Local {
	l, err := time.Parse("2006-01-02T15:04:05", text)
	if err != nil {
		panic(err)
	}
	return api.Local(l.Unix())
}

// shown is a time as the library of Go tells it.
func shown(t api.Local) string { return time.Unix(int64(t), 0).UTC().Format("Mon 2006-01-02T15:04:05") }

// date is a day's, of the Gregorian calendar, as the library of Go tells it.
func date(day int) time.Time { return time.Unix(int64(day)*api.Daily, 0).UTC() }

// week are hours of the same minutes from Monday to Friday, with holidays.
func week(minutes []api.Span, holidays ...api.Holiday) api.Hours {
	h := api.Hours{Holidays: holidays}
	for i := range 5 {
		h.Week[i] = minutes
	}
	return h
}

// office are minutes from 9 to 12, and from 13 to 17.
func office() []api.Span { return []api.Span{{From: 540, To: 720}, {From: 780, To: 1020}} }

// always are hours of which each minute of each day has work, but for holidays.
func always(holidays ...api.Holiday) api.Hours {
	h := api.Hours{Holidays: holidays}
	for i := range h.Week {
		h.Week[i] = []api.Span{{From: 0, To: 1440}}
	}
	return h
}

// ever is a holiday of all years.
func ever(x api.Holiday) api.Holiday {
	x.From, x.To = 1, 9999
	return x
}

// drawnMinutes draws minutes of a day with so many spans at most.
func drawnMinutes(r *rand.Rand, most int) []api.Span {
	var l []api.Span
	minute := r.Intn(3) * r.Intn(300)
	for range r.Intn(most + 1) {
		s := api.Span{From: minute, To: minute + 1 + r.Intn(400)}
		if r.Intn(6) == 0 {
			s.To = 1440
		}
		if s.From >= 1440 || s.To > 1440 {
			break
		}
		l = append(l, s)
		minute = s.To + 1 + r.Intn(100)
	}
	return l
}

// drawnHoliday draws a holiday of years about one.
func drawnHoliday(r *rand.Rand, year int) api.Holiday {
	x := api.Holiday{Kind: 1 + r.Intn(4), Moves: r.Intn(3), From: 1, To: 9999}
	if r.Intn(3) == 0 {
		x.From = min(max(year-2+r.Intn(4), 1), 9999)
		x.To = min(x.From+r.Intn(5), 9999)
	}
	switch x.Kind {
	case api.OnDate:
		x.Cal, x.Month, x.Day = api.Cal(1+r.Intn(10)), 1+r.Intn(13), 1+r.Intn(31)
	case api.OnNth:
		x.Month, x.N, x.Weekday = 1+r.Intn(12), []int{-5, -4, -3, -2, -1, 1, 2, 3, 4, 5}[r.Intn(10)], 1+r.Intn(7)
	default:
		x.Offset = r.Intn(201) - 100
	}
	return x
}

// drawnHours draws hours with holidays of years about one.
func drawnHours(r *rand.Rand, year int) api.Hours {
	var h api.Hours
	for i := range h.Week {
		if r.Intn(4) > 0 {
			h.Week[i] = drawnMinutes(r, 4)
		}
	}
	for range r.Intn(61) {
		h.Holidays = append(h.Holidays, drawnHoliday(r, year))
	}
	return h
}
