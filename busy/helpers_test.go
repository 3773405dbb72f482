package busy_test

import (
	"fmt"
	"reflect"
	"testing"

	"almanac/api"
	"almanac/busy"
	"almanac/moments"
)

// at tells where a test is; only what fails asks for it.
func at(format string, args ...any) func() string {
	return func() string { return fmt.Sprintf(format, args...) }
}

// wantSaid says whether a call told this error, without a place.
func wantSaid(t *testing.T, what func() string, err error, want api.Errno) {
	t.Helper()
	if want == api.OK && err != nil || want != api.OK && err != want {
		t.Errorf("%s: %v; error %d is wanted", what(), err, want)
	}
}

// wantError says whether a call told this error, and else its zero value.
func wantError[T any](t *testing.T, what func() string, got T, err error, want api.Errno) {
	t.Helper()
	var zero T
	if err != want || !reflect.DeepEqual(got, zero) {
		t.Errorf("%s: %+v, %v; error %d is wanted, and the zero value", what(), got, err, want)
	}
}

// wantSpans says whether a call answered a set of just these spans, each by its ends.
func wantSpans(t *testing.T, what func() string, got busy.Set, err error, ends ...int) {
	t.Helper()
	if err != nil || fmt.Sprint(got.Spans()) != fmt.Sprint(spansOf(ends...)) {
		t.Errorf("%s: %v, %v; %v is wanted", what(), got.Spans(), err, spansOf(ends...))
	}
}

// wantSlot says whether a call answered this meeting.
func wantSlot(t *testing.T, what func() string, got api.Slot, err error, want api.Slot) {
	t.Helper()
	if err != nil || got.At != want.At || got.Room != want.Room || fmt.Sprint(got.Missing) != fmt.Sprint(want.Missing) {
		t.Errorf("%s: %+v, %v; %+v is wanted", what(), got, err, want)
	}
}

// spansOf are spans, each by its ends.
func spansOf(ends ...int) []api.Span {
	var l []api.Span
	for i := 0; i+1 < len(ends); i += 2 {
		l = append(l, api.Span{From: ends[i], To: ends[i+1]})
	}
	return l
}

// taken is a set of spans, each by its ends.
func taken(ends ...int) busy.Set { return moments.Of[api.Instant](spansOf(ends...)...) }
