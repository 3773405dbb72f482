package cron_test

import (
	"errors"
	"fmt"
	"math"
	"math/rand"
	"reflect"
	"slices"
	"testing"
	"time"

	"almanac/api"
	"almanac/cron"
)

const (
	firstTime api.Local = -api.MaxDay * api.Daily // the midnight with which the first day begins
	lastTime  api.Local = api.MaxTime
)

// noTimes are times that there are not.
var noTimes = []api.Local{math.MinInt, -api.MaxTime, firstTime - 1, lastTime + 1, math.MaxInt}

// at tells where a test is; only what fails asks for it.
func at(format string, args ...any) func() string {
	return func() string { return fmt.Sprintf(format, args...) }
}

// wantError says whether a call told this error, without a place, and else its zero value.
func wantError[T any](t *testing.T, what func() string, got T, err error, want api.Errno) {
	t.Helper()
	var zero T
	if err != want || !reflect.DeepEqual(got, zero) {
		t.Errorf("%s: %v, %v; error %d is wanted, without a place, and the zero value", what(), got, err, want)
	}
}

// wantPlace says whether a call told this error at this place, and else its zero value.
func wantPlace[T any](t *testing.T, what func() string, got T, err error, want api.Errno, place int) {
	t.Helper()
	var zero T
	var a *api.At
	if !errors.As(err, &a) || a.Err != want || a.Place != place || !reflect.DeepEqual(got, zero) {
		t.Errorf("%s: %v, %v; error %d at %d is wanted, and the zero value", what(), got, err, want, place)
	}
}

// wantValue says whether a call answered this, and no error.
func wantValue[T any](t *testing.T, what func() string, got T, err error, want T) {
	t.Helper()
	if err != nil || !reflect.DeepEqual(got, want) {
		t.Errorf("%s: %v, %v; %v is wanted", what(), got, err, want)
	}
}

// local is a time that is written as 2024-07-08T12:30:00, as the library of Go reads it.
func local(text string) api.Local {
	l, err := time.Parse("2006-01-02T15:04:05", text)
	if err != nil {
		panic(err)
	}
	return api.Local(l.Unix())
}

// shown is a time as the library of Go tells it.
func shown(t api.Local) time.Time { return time.Unix(int64(t), 0).UTC() }

// read is what a text tells.
func read(t *testing.T, text string) api.Cron {
	t.Helper()
	c, err := cron.Parse(text)
	if err != nil {
		t.Fatalf("Parse(%q): %v", text, err)
	}
	return c
}

// numbers are those from one up to another one, which is of them.
func numbers(from, to int) []int {
	var l []int
	for n := from; n <= to; n++ {
		l = append(l, n)
	}
	return l
}

// anyMinute is a Cron by which each minute will do.
func anyMinute() api.Cron {
	return api.Cron{Minutes: numbers(0, 59), Hours: numbers(0, 23), Months: numbers(1, 12), Any: true, AnyWeek: true}
}

// with is such a Cron, made other.
func with(change func(c *api.Cron)) api.Cron {
	c := anyMinute()
	change(&c)
	return c
}

// some draws up to so many numbers, which rise; at least one.
func some(r *rand.Rand, many, from, to int) []int {
	var l []int
	for range 1 + r.Intn(many) {
		l = append(l, from+r.Intn(to-from+1))
	}
	slices.Sort(l)
	return slices.Compact(l)
}

// seldom draws such numbers, or none.
func seldom(r *rand.Rand, many, from, to int) []int {
	if r.Intn(2) == 0 {
		return nil
	}
	return some(r, many, from, to)
}

// drawn draws a Cron.
func drawn(r *rand.Rand) api.Cron {
	c := anyMinute()
	if r.Intn(3) > 0 {
		c.Minutes = some(r, 5, 0, 59)
	}
	if r.Intn(3) > 0 {
		c.Hours = some(r, 4, 0, 23)
	}
	if r.Intn(3) > 0 {
		c.Months = some(r, 5, 1, 12)
	}
	if r.Intn(3) > 0 {
		c.Days, c.Near, c.Last = seldom(r, 3, 1, 31), seldom(r, 3, 1, 31), r.Intn(4) == 0
		c.Any = len(c.Days)+len(c.Near) == 0 && !c.Last
	}
	if r.Intn(3) > 0 {
		c.Weekdays, c.LastOf = seldom(r, 2, 1, 7), seldom(r, 2, 1, 7)
		for _, n := range seldom(r, 3, 0, 34) {
			c.Nth = append(c.Nth, api.Nth{N: n%5 + 1, Day: n/5 + 1})
		}
		c.AnyWeek = len(c.Weekdays)+len(c.LastOf)+len(c.Nth) == 0
	}
	return c
}
