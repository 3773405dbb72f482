package moments_test

import (
	"fmt"
	"math"
	"slices"
	"testing"

	"almanac/api"
	"almanac/moments"
)

// set is a set of moments, as the tests ask it.
type set = moments.Set[api.Instant]

// far are times at the ends, and beyond them.
var far = []int{math.MinInt, math.MinInt + 1, -1 << 61, moments.Low - 1, moments.Low, moments.Low + 1, moments.High - 1, moments.High, moments.High + 1, 1 << 61, math.MaxInt - 1, math.MaxInt}

// beyond are numbers by which nothing is left from Low up to High.
var beyond = []int{math.MinInt, math.MinInt + 1, -1 << 62, -1<<61 - 1, -1 << 61, 1 << 61, 1<<61 + 1, 1 << 62, math.MaxInt - 1, math.MaxInt}

// at tells where a test is; only what fails asks for it.
func at(format string, args ...any) func() string {
	return func() string { return fmt.Sprintf(format, args...) }
}

// spans is a list of spans, by their ends.
func spans(ends ...int) []api.Span {
	var l []api.Span
	for i := 0; i < len(ends); i += 2 {
		l = append(l, api.Span{From: ends[i], To: ends[i+1]})
	}
	return l
}

// of is a set of spans, by their ends.
func of(ends ...int) set { return moments.Of[api.Instant](spans(ends...)...) }

// whole has all times.
func whole() set { return of(moments.Low, moments.High) }

// wantSpans says whether a set has just these spans, by their ends.
func wantSpans[T moments.Number](t *testing.T, what func() string, s moments.Set[T], ends ...int) {
	t.Helper()
	if got := s.Spans(); !slices.Equal(got, spans(ends...)) {
		t.Errorf("%s: %v; %v is wanted", what(), got, spans(ends...))
	}
}

// wantSame says whether two sets have the same times.
func wantSame(t *testing.T, what func() string, got, want set) {
	t.Helper()
	if !slices.Equal(got.Spans(), want.Spans()) {
		t.Errorf("%s: %v; %v is wanted", what(), got.Spans(), want.Spans())
	}
}

// wantTime says whether a call answered this time, and no error.
func wantTime[T moments.Number](t *testing.T, what func() string, got T, err error, want T) {
	t.Helper()
	if err != nil || got != want {
		t.Errorf("%s: %v, %v; %v is wanted", what(), got, err, want)
	}
}

// wantError says whether a call told this error, without a place, and else 0.
func wantError[T moments.Number](t *testing.T, what func() string, got T, err error, want api.Errno) {
	t.Helper()
	if err != want || got != 0 {
		t.Errorf("%s: %v, %v; error %d is wanted, without a place, and 0", what(), got, err, want)
	}
}

// wantForm says whether spans are those of a set: from Low up to High they rise, none is empty, and none meets the next one.
func wantForm(t *testing.T, what func() string, l []api.Span) {
	t.Helper()
	for i, x := range l {
		if x.From < moments.Low || x.To > moments.High || x.From >= x.To || i > 0 && x.From <= l[i-1].To {
			t.Errorf("%s: %v is not of the form", what(), l)
			return
		}
	}
}

// wantTimes says whether a set has just those times that the model tells. The model's answers change at some of the times alone.
func wantTimes(t *testing.T, what func() string, s set, told func(int) bool, times []int) {
	t.Helper()
	l := s.Spans()
	wantForm(t, what, l)
	times = slices.Concat(times, far)
	for _, x := range l {
		times = append(times, x.From-1, x.From, x.To-1, x.To)
	}
	for _, x := range times {
		within := slices.ContainsFunc(l, func(y api.Span) bool { return y.From <= x && x < y.To })
		has, want := s.Has(api.Instant(x)), told(x)
		if within != want || has != want {
			t.Errorf("%s: %d is of the spans %v: %v; Has tells %v; %v is wanted", what(), x, l, within, has, want)
			return
		}
	}
}
