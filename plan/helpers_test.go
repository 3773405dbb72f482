package plan_test

import (
	"fmt"
	"math/rand"
	"reflect"
	"slices"
	"testing"

	"almanac/api"
	"almanac/plan"
)

// at tells where a test is; only what fails asks for it.
func at(format string, args ...any) func() string {
	return func() string { return fmt.Sprintf(format, args...) }
}

// wantSaid says whether a call told this error.
func wantSaid(t *testing.T, what func() string, err error, want api.Errno) {
	t.Helper()
	if want == api.OK && err != nil || want != api.OK && err != want {
		t.Errorf("%s: %v; error %d is wanted", what(), err, want)
	}
}

// wantError says whether a call told this error, and else its zero value.
func wantError[T any](t *testing.T, what func() string, got T, err error, want api.Errno) {
	t.Helper()
	var zero T
	if err != want || !reflect.DeepEqual(got, zero) {
		t.Errorf("%s: %+v, %v; error %d is wanted, and the zero value", what(), got, err, want)
	}
}

// wantValue says whether a call answered this: an empty list may be nil.
func wantValue[T any](t *testing.T, what func() string, got T, err error, want T) {
	t.Helper()
	if err != nil || fmt.Sprint(got) != fmt.Sprint(want) {
		t.Errorf("%s: %v, %v; %v is wanted", what(), got, err, want)
	}
}

// wantAllSay says whether all calls tell what Check says of a plan.
func wantAllSay(t *testing.T, l []api.Task, want api.Errno) {
	t.Helper()
	spans, err := plan.Early(l)
	wantError(t, at("12.1: Early(%v)", l), spans, err, want)
	end, err := plan.End(l)
	wantError(t, at("12.1: End(%v)", l), end, err, want)
	spans, err = plan.Late(l, -1)
	wantError(t, at("12.1: Late(%v, -1)", l), spans, err, want)
	spans, err = plan.Late(l, 1<<50)
	wantError(t, at("12.1: Late(%v, 1<<50)", l), spans, err, want)
	row, err := plan.Critical(l)
	wantError(t, at("12.1: Critical(%v)", l), row, err, want)
	row, err = plan.Path(l)
	wantError(t, at("12.1: Path(%v)", l), row, err, want)
	spans, err = plan.Level(l, []int{-1})
	wantError(t, at("12.1: Level(%v, -1)", l), spans, err, want)
}

// spansOf are spans, each by its ends.
func spansOf(ends ...int) []api.Span {
	var l []api.Span
	for i := 0; i+1 < len(ends); i += 2 {
		l = append(l, api.Span{From: ends[i], To: ends[i+1]})
	}
	return l
}

// behind is a task with such links.
func behind(length int, links ...api.Link) api.Task { return api.Task{Length: length, Links: links} }

// drawnPlan is a plan with so many tasks, in any order, that hang on others of their own.
func drawnPlan(r *rand.Rand, n, length, lag, uses int) []api.Task {
	l := make([]api.Task, n)
	row := r.Perm(n)
	for k, i := range row {
		task := api.Task{Length: r.Intn(length + 1), NotBefore: r.Intn(3) * r.Intn(length+1)}
		for range r.Intn(4) {
			if k > 0 {
				task.Links = append(task.Links, api.Link{Task: row[r.Intn(k)], Kind: 1 + r.Intn(4), Lag: r.Intn(2*lag+1) - lag})
			}
		}
		for range r.Intn(uses + 1) {
			task.Uses = append(task.Uses, r.Intn(4))
		}
		l[i] = task
	}
	return l
}

// copyOf is a plan that shares nothing with another one.
func copyOf(l []api.Task) []api.Task {
	own := slices.Clone(l)
	for i := range own {
		own[i].Links, own[i].Uses = slices.Clone(own[i].Links), slices.Clone(own[i].Uses)
	}
	return own
}
