package span_test

import (
	"fmt"
	"math"
	"testing"

	"almanac/api"
	"almanac/span"
)

// noSets are numbers that are no sets of ways.
var noSets = []api.Set{math.MinInt, -api.AnyWay, -1, api.AnyWay + 1, api.AnyWay + 2, math.MaxInt}

// empties are spans of which nothing is.
var empties = []api.Span{{}, {From: 3, To: 3}, {From: 3, To: 2}, {From: math.MaxInt, To: math.MinInt}, {From: math.MaxInt, To: math.MaxInt}}

// at tells where a test is; only what fails asks for it.
func at(format string, args ...any) func() string {
	return func() string { return fmt.Sprintf(format, args...) }
}

// wantError says whether a call told this error, without a place, and else its zero value.
func wantError[T comparable](t *testing.T, what func() string, got T, err error, want api.Errno) {
	t.Helper()
	var zero T
	if err != want || got != zero {
		t.Errorf("%s: %v, %v; error %d is wanted, without a place, and the zero value", what(), got, err, want)
	}
}

// wantNil says whether a call told this error, without a place, and else no list.
func wantNil[T any](t *testing.T, what func() string, got []T, err error, want api.Errno) {
	t.Helper()
	if err != want || got != nil {
		t.Errorf("%s: %v, %v; error %d is wanted, without a place, and nil", what(), got, err, want)
	}
}

// wantValue says whether a call answered this, and no error.
func wantValue[T comparable](t *testing.T, what func() string, got T, err error, want T) {
	t.Helper()
	if err != nil || got != want {
		t.Errorf("%s: %v, %v; %v is wanted", what(), got, err, want)
	}
}

// set is the set of some ways.
func set(ways ...int) api.Set {
	var s api.Set
	for _, w := range ways {
		s |= 1 << w
	}
	return s
}

// mustBack is a set turned round, which must be one.
func mustBack(t *testing.T, s api.Set) api.Set {
	t.Helper()
	b, err := span.Back(s)
	if err != nil {
		t.Fatalf("Back(%d): %v", s, err)
	}
	return b
}

// mustJoin is what follows of two sets, which must be some.
func mustJoin(t *testing.T, p, q api.Set) api.Set {
	t.Helper()
	s, err := span.Join(p, q)
	if err != nil {
		t.Fatalf("Join(%d, %d): %v", p, q, err)
	}
	return s
}

// loose is a net of so many spans that says nothing of them.
func loose(size int) [][]api.Set {
	var net [][]api.Set
	for range size {
		var row []api.Set
		for range size {
			row = append(row, api.AnyWay)
		}
		net = append(net, row)
	}
	return net
}

// say puts into a net how two spans may lie to each other.
func say(net [][]api.Set, row, column int, ways ...int) {
	net[row][column] = set(ways...)
	net[column][row] = 0
	for _, w := range ways {
		net[column][row] |= 1 << (api.After - w)
	}
}

// copyOf is a net with rows of its own.
func copyOf(net [][]api.Set) [][]api.Set {
	var other [][]api.Set
	for _, row := range net {
		other = append(other, append([]api.Set{}, row...))
	}
	return other
}

// show is a text of whatever is compared.
func show(l any) string { return fmt.Sprint(l) }
