package zone_test

import (
	"errors"
	"fmt"
	"math"
	"slices"
	"testing"
	"time"

	"almanac/api"
	"almanac/zone"
)

const (
	firstTime api.Local = -api.MaxDay * api.Daily // the midnight with which the first day begins
	lastTime  api.Local = api.MaxTime
)

// noTimes are local times that there are not.
var noTimes = []api.Local{math.MinInt, -api.MaxTime, firstTime - 1, lastTime + 1, math.MaxInt}

// someEarly and someLate are moments farther off than any others.
const (
	someEarly api.Instant = math.MinInt
	someLate  api.Instant = math.MaxInt
)

// europe is how clocks go in the middle of Europe (chapter 3's example of the document).
const europe = "rule EU 1981 max 3 last7 01:00u +01:00\nrule EU 1996 max 10 last7 01:00u +00:00\nera +01:00 EU\n"

// at tells where a test is; only what fails asks for it.
func at(format string, args ...any) func() string {
	return func() string { return fmt.Sprintf(format, args...) }
}

// wantError says whether a call told this error, without a place, and else its zero value.
func wantError[T comparable](t *testing.T, what func() string, got T, err error, want api.Errno) {
	t.Helper()
	var zero T
	if err != want || got != zero {
		t.Errorf("%s: %v, %v; error %d is wanted, without a place, and the zero value", what(), got, err, want)
	}
}

// wantPlace says whether a call told this error at this place, and else its zero value.
func wantPlace[T comparable](t *testing.T, what func() string, got T, err error, want api.Errno, place int) {
	t.Helper()
	var zero T
	var a *api.At
	if !errors.As(err, &a) || a.Err != want || a.Place != place || got != zero {
		t.Errorf("%s: %v, %v; error %d at %d is wanted, and the zero value", what(), got, err, want, place)
	}
}

// wantValue says whether a call answered this, and no error.
func wantValue[T comparable](t *testing.T, what func() string, got T, err error, want T) {
	t.Helper()
	if err != nil || got != want {
		t.Errorf("%s: %v, %v; %v is wanted", what(), got, err, want)
	}
}

// wantList says whether a call answered this list.
func wantList[T comparable](t *testing.T, what func() string, got, want []T) {
	t.Helper()
	if !slices.Equal(got, want) {
		t.Errorf("%s: %v; %v is wanted", what(), got, want)
	}
}

// mustParse is a zone that must be one.
func mustParse(t *testing.T, text string) *zone.Zone {
	t.Helper()
	z, err := zone.Parse(text)
	if err != nil || z == nil {
		t.Fatalf("Parse(%q): %v", text, err)
	}
	return z
}

// mustFixed is a zone of an offset that may be.
func mustFixed(t *testing.T, offset int) *zone.Zone {
	t.Helper()
	z, err := zone.Fixed(offset)
	if err != nil || z == nil {
		t.Fatalf("Fixed(%d): %v", offset, err)
	}
	return z
}

// seconds are those of a date and clock, as the library of Go reckons them: a moment by clocks of offset 0, or a local time.
func seconds(year, month, day, hour, minute int) int {
	return int(time.Date(year, time.Month(month), day, hour, minute, 0, 0, time.UTC).Unix())
}

// moment is the one at which clocks of offset 0 show this.
func moment(year, month, day, hour, minute int) api.Instant {
	return api.Instant(seconds(year, month, day, hour, minute))
}

// local is what clocks show.
func local(year, month, day, hour, minute int) api.Local {
	return api.Local(seconds(year, month, day, hour, minute))
}

// ahead is what a clock shows that is ahead so many hours, of which so many are saved.
func ahead(offset, save int) api.Now { return api.Now{Offset: 3600 * offset, Save: 3600 * save} }
