package rule_test

import (
	"errors"
	"fmt"
	"math"
	"reflect"
	"slices"
	"strings"
	"testing"
	"time"

	"almanac/api"
	"almanac/rule"
)

const (
	firstTime api.Local = -api.MaxDay * api.Daily // the midnight with which the first day begins
	lastTime  api.Local = api.MaxTime
	margin              = 40_000 // days that a start has from the ends of all days
)

// noTimes are times that there are not.
var noTimes = []api.Local{math.MinInt, -api.MaxTime, firstTime - 1, lastTime + 1, math.MaxInt}

// at tells where a test is; only what fails asks for it.
func at(format string, args ...any) func() string {
	return func() string { return fmt.Sprintf(format, args...) }
}

// wantError says whether a call told this error, without a place, and else its zero value.
func wantError[T any](t *testing.T, what func() string, got T, err error, want api.Errno) {
	t.Helper()
	var zero T
	if err != want || !reflect.DeepEqual(got, zero) {
		t.Errorf("%s: %v, %v; error %d is wanted, without a place, and the zero value", what(), got, err, want)
	}
}

// wantPlace says whether a call told this error at this place, and else its zero value.
func wantPlace[T any](t *testing.T, what func() string, got T, err error, want api.Errno, place int) {
	t.Helper()
	var zero T
	var a *api.At
	if !errors.As(err, &a) || a.Err != want || a.Place != place || !reflect.DeepEqual(got, zero) {
		t.Errorf("%s: %v, %v; error %d at %d is wanted, and the zero value", what(), got, err, want, place)
	}
}

// wantValue says whether a call answered this, and no error.
func wantValue[T any](t *testing.T, what func() string, got T, err error, want T) {
	t.Helper()
	if err != nil || !reflect.DeepEqual(got, want) {
		t.Errorf("%s: %v, %v; %v is wanted", what(), got, err, want)
	}
}

// wantTimes says whether these times are told.
func wantTimes(t *testing.T, what func() string, got, want []api.Local) {
	t.Helper()
	if slices.Equal(got, want) {
		return
	}
	i := 0
	for i < len(got) && i < len(want) && got[i] == want[i] {
		i++
	}
	t.Errorf("%s: %d times; %d are wanted; from time %d on they are %s; %s is wanted", what(), len(got), len(want), i, shown(got[i:]), shown(want[i:]))
}

// shown are the first few of some times.
func shown(l []api.Local) string {
	var s []string
	for _, t := range l[:min(3, len(l))] {
		s = append(s, time.Unix(int64(t), 0).UTC().Format("2006-01-02T15:04:05"))
	}
	return strings.Join(s, " ") + " .."
}

// local is a time that is written as 2024-07-08T12:30, as the library of Go reads it.
func local(text string) api.Local {
	l, err := time.Parse("2006-01-02T15:04", text)
	if err != nil {
		l, err = time.Parse("2006-01-02T15:04:05", text)
	}
	if err != nil {
		panic(err)
	}
	return api.Local(l.Unix())
}

// daily is the smallest rule that may be.
func daily() api.Rule {
	return api.Rule{Cal: api.Gregorian, Freq: api.EachDay, Every: 1, First: 1}
}

// with is the smallest rule, made other.
func with(change func(r *api.Rule)) api.Rule {
	r := daily()
	change(&r)
	return r
}

// read is a rule that a text tells.
func read(t *testing.T, text string) api.Rule {
	t.Helper()
	r, err := rule.Parse(text)
	if err != nil {
		t.Fatalf("Parse(%q): %v", text, err)
	}
	return r
}

// all are the times of a rule, so many at most.
func all(t *testing.T, r api.Rule, start api.Local, most int) []api.Local {
	t.Helper()
	seq, err := rule.All(r, start)
	if err != nil || seq == nil {
		t.Fatalf("All(%+v, %d): %v", r, start, err)
	}
	var l []api.Local
	for x := range seq {
		if len(l) == most {
			break
		}
		l = append(l, x)
	}
	return l
}

// numbers are those from one up to another one, which is of them.
func numbers(from, to int) []int {
	var l []int
	for n := from; n <= to; n++ {
		l = append(l, n)
	}
	return l
}

// nths are weekdays, each with its N ahead.
func nths(l ...int) []api.Nth {
	var days []api.Nth
	for i := 0; i < len(l); i += 2 {
		days = append(days, api.Nth{N: l[i], Day: l[i+1]})
	}
	return days
}

// copied is a rule whose lists share nothing with the other one's.
func copied(r api.Rule) api.Rule {
	for _, l := range lists(&r) {
		*l = slices.Clone(*l)
	}
	r.Days = slices.Clone(r.Days)
	return r
}

// lists are those of a rule that have numbers.
func lists(r *api.Rule) []*[]int {
	return []*[]int{&r.Months, &r.Weeks, &r.YearDays, &r.MonthDays, &r.Hours, &r.Minutes, &r.Seconds, &r.Places}
}
