package clock_test

import (
	"errors"
	"fmt"
	"math"
	"math/rand"
	"testing"
	"time"

	"almanac/api"
	"almanac/clock"
)

const (
	firstTime api.Local = -api.MaxDay * api.Daily // the midnight with which the first day begins
	lastTime  api.Local = api.MaxTime
)

// noTimes are times that there are not.
var noTimes = []api.Local{math.MinInt, -api.MaxTime, firstTime - 1, lastTime + 1, math.MaxInt}

// noDays are days that there are not.
var noDays = []int{math.MinInt, -api.MaxDay - 1, api.MaxDay + 1, math.MaxInt}

// at tells where a test is; only what fails asks for it.
func at(format string, args ...any) func() string {
	return func() string { return fmt.Sprintf(format, args...) }
}

// wantError says whether a call told this error, without a place, and else its zero value.
func wantError[T comparable](t *testing.T, what func() string, got T, err error, want api.Errno) {
	t.Helper()
	var zero T
	if err != want || got != zero {
		t.Errorf("%s: %v, %v; error %d is wanted, without a place, and the zero value", what(), got, err, want)
	}
}

// wantPlace says whether a call told this error at this place, and else its zero value.
func wantPlace[T comparable](t *testing.T, what func() string, got T, err error, want api.Errno, place int) {
	t.Helper()
	var zero T
	var a *api.At
	if !errors.As(err, &a) || a.Err != want || a.Place != place || got != zero {
		t.Errorf("%s: %v, %v; error %d at %d is wanted, and the zero value", what(), got, err, want, place)
	}
}

// wantValue says whether a call answered this, and no error.
func wantValue[T comparable](t *testing.T, what func() string, got T, err error, want T) {
	t.Helper()
	if err != nil || got != want {
		t.Errorf("%s: %v, %v; %v is wanted", what(), got, err, want)
	}
}

// local is the time of a date and clock, as the library of Go reckons it.
func local(year, month, day, hour, minute, second int) api.Local {
	return api.Local(time.Date(year, time.Month(month), day, hour, minute, second, 0, time.UTC).Unix())
}

// mustAdd is clock.Add where it must be.
func mustAdd(t *testing.T, a api.Local, p api.Period) api.Local {
	t.Helper()
	b, err := clock.Add(a, p)
	if err != nil {
		t.Fatalf("Add(%d, %v): %v", a, p, err)
	}
	return b
}

// someTimes are times of all kinds, the same each time: the ends, those about years that are written in another way, and such as are strewn over all.
func someTimes() []api.Local {
	l := []api.Local{firstTime, firstTime + 1, -1, 0, 1, lastTime - 1, lastTime}
	for _, year := range []int{-8981, -1, 0, 1, 1582, 1900, 2000, 2023, 2024, 9999, 10000, 12921} {
		first := local(year, 1, 1, 0, 0, 0)
		l = append(l, first-1, first, first+59*api.Daily, first+60*api.Daily-1)
	}
	r := rand.New(rand.NewSource(2))
	for range 3000 {
		l = append(l, firstTime+api.Local(r.Int63n(int64(lastTime-firstTime)+1)))
	}
	return l
}
