package days_test

import (
	"errors"
	"fmt"
	"math"
	"testing"

	"almanac/api"
	"almanac/days"
)

var allCalendars = []api.Cal{
	api.Gregorian, api.Julian, api.Coptic, api.Ethiopic, api.Islamic,
	api.Persian, api.Hebrew, api.Saka, api.French, api.Egyptian,
}

// noCalendars are numbers of calendars that there are not.
var noCalendars = []api.Cal{math.MinInt, -1, 0, api.Egyptian + 1, math.MaxInt}

// noYears are years that there are not.
var noYears = []int{math.MinInt, -api.MaxYear - 1, api.MaxYear + 1, math.MaxInt}

// noDays are days that there are not.
var noDays = []int{math.MinInt, -api.MaxDay - 1, api.MaxDay + 1, math.MaxInt}

// mustDay is the day of a date that must be there.
func mustDay(t *testing.T, c api.Cal, year, month, day int) int {
	t.Helper()
	n, err := days.Day(api.Date{Cal: c, Year: year, Month: month, Day: day})
	if err != nil {
		t.Fatalf("Day(%d, %d-%d-%d): %v", c, year, month, day, err)
	}
	return n
}

// at tells where a test is; only what fails asks for it.
func at(format string, args ...any) func() string {
	return func() string { return fmt.Sprintf(format, args...) }
}

// wantError says whether a call told this error and else its zero value.
func wantError[T comparable](t *testing.T, what func() string, got T, err error, want api.Errno) {
	t.Helper()
	var zero T
	if !errors.Is(err, want) || got != zero {
		t.Errorf("%s: %v, %v; error %d is wanted, and the zero value", what(), got, err, want)
	}
}

// wantValue says whether a call answered this, and no error.
func wantValue[T comparable](t *testing.T, what func() string, got T, err error, want T) {
	t.Helper()
	if err != nil || got != want {
		t.Errorf("%s: %v, %v; %v is wanted", what(), got, err, want)
	}
}

// down is n through by, rounded down.
func down(n, by int) int { return int(math.Floor(float64(n) / float64(by))) }

// left is what down leaves.
func left(n, by int) int { return n - by*down(n, by) }
