package span_test

import (
	"math"
	"math/rand"
	"testing"

	"almanac/api"
	"almanac/span"
)

// Promise 4.1.

func TestOf(t *testing.T) {
	b := api.Span{From: 10, To: 20}
	for want, a := range []api.Span{
		api.Before: {From: 1, To: 9}, api.Meets: {From: 1, To: 10}, api.Overlaps: {From: 1, To: 11},
		api.Starts: {From: 10, To: 19}, api.During: {From: 11, To: 19}, api.Finishes: {From: 11, To: 20},
		api.Equal:      {From: 10, To: 20},
		api.FinishedBy: {From: 9, To: 20}, api.Contains: {From: 9, To: 21}, api.StartedBy: {From: 10, To: 21},
		api.OverlappedBy: {From: 19, To: 21}, api.MetBy: {From: 20, To: 21}, api.After: {From: 21, To: 30},
	} {
		got, err := span.Of(a, b)
		wantValue(t, at("Of(%v, %v)", a, b), got, err, want)
		got, err = span.Of(b, a)
		wantValue(t, at("Of(%v, %v)", b, a), got, err, 12-want)
	}
}

func TestOfEachPair(t *testing.T) {
	l := spansFrom(-4, 3)
	for _, a := range l {
		for _, b := range l {
			got, err := span.Of(a, b)
			for way := range api.Ways {
				if lies(way, a, b) {
					wantValue(t, at("Of(%v, %v)", a, b), got, err, way)
				}
			}
			turned, err := span.Of(b, a)
			wantValue(t, at("Of(%v, %v)", b, a), turned, err, 12-got)
		}
	}
}

func TestOfFarOff(t *testing.T) {
	for _, c := range []struct {
		a, b api.Span
		want int
	}{
		{api.Span{From: math.MinInt, To: math.MaxInt}, api.Span{From: math.MinInt, To: math.MaxInt}, api.Equal},
		{api.Span{From: math.MinInt, To: math.MaxInt}, api.Span{From: 0, To: 1}, api.Contains},
		{api.Span{From: math.MinInt, To: 0}, api.Span{From: 0, To: math.MaxInt}, api.Meets},
		{api.Span{From: math.MinInt, To: math.MinInt + 1}, api.Span{From: math.MaxInt - 1, To: math.MaxInt}, api.Before},
		{api.Span{From: math.MinInt, To: 1}, api.Span{From: 0, To: math.MaxInt}, api.Overlaps},
		{api.Span{From: math.MinInt, To: 1}, api.Span{From: math.MinInt, To: math.MaxInt}, api.Starts},
		{api.Span{From: 1, To: math.MaxInt}, api.Span{From: math.MinInt, To: math.MaxInt}, api.Finishes},
	} {
		got, err := span.Of(c.a, c.b)
		wantValue(t, at("Of(%v, %v)", c.a, c.b), got, err, c.want)
		got, err = span.Of(c.b, c.a)
		wantValue(t, at("Of(%v, %v)", c.b, c.a), got, err, 12-c.want)
	}
}

func TestOfEmpty(t *testing.T) {
	some := api.Span{From: 5, To: 6}
	for _, e := range empties {
		got, err := span.Of(e, some)
		wantError(t, at("Of(%v, %v)", e, some), got, err, api.ErrEmpty)
		got, err = span.Of(some, e)
		wantError(t, at("Of(%v, %v)", some, e), got, err, api.ErrEmpty)
		got, err = span.Of(e, e)
		wantError(t, at("Of(%v, %v)", e, e), got, err, api.ErrEmpty)
	}
}

// Promise 4.2.

func TestBack(t *testing.T) {
	for _, c := range []struct{ s, want api.Set }{
		{0, 0},
		{api.AnyWay, api.AnyWay},
		{set(api.Equal), set(api.Equal)},
		{set(api.Before, api.Overlaps), set(api.After, api.OverlappedBy)},
		{set(api.Starts, api.During, api.Finishes), set(api.StartedBy, api.Contains, api.FinishedBy)},
		{set(api.Meets), set(api.MetBy)},
	} {
		got, err := span.Back(c.s)
		wantValue(t, at("Back(%d)", c.s), got, err, c.want)
	}
}

func TestBackOfEachSet(t *testing.T) {
	for s := api.Set(0); s <= api.AnyWay; s++ {
		got, err := span.Back(s)
		wantValue(t, at("Back(%d)", s), got, err, modelBack(s))
	}
}

func TestJoin(t *testing.T) {
	for _, c := range []struct{ p, q, want api.Set }{
		{set(api.Overlaps), set(api.During), 28},
		{set(api.Overlaps), set(api.During), set(api.Overlaps, api.Starts, api.During)},
		{set(api.Meets), set(api.Meets), set(api.Before)},
		{set(api.Meets), set(api.MetBy), set(api.Finishes, api.Equal, api.FinishedBy)},
		{set(api.Before), set(api.After), api.AnyWay},
		{set(api.During), set(api.Before, api.After), set(api.Before, api.After)},
		{set(api.Equal), 1234, 1234},
		{1234, set(api.Equal), 1234},
		{0, api.AnyWay, 0},
		{api.AnyWay, 0, 0},
		{0, 0, 0},
		{api.AnyWay, api.AnyWay, api.AnyWay},
	} {
		got, err := span.Join(c.p, c.q)
		wantValue(t, at("Join(%d, %d)", c.p, c.q), got, err, c.want)
	}
}

func TestJoinOfSingleWaysIsWhatThereIs(t *testing.T) {
	f := modelFollow()
	all := 0
	for p := range api.Ways {
		for q := range api.Ways {
			got, err := span.Join(set(p), set(q))
			wantValue(t, at("Join of ways %d and %d", p, q), got, err, f[p][q])
			all += span.Count(got)
		}
	}
	if all != 409 {
		t.Errorf("all Joins of single ways tell %d ways; 409 are wanted", all)
	}
}

func TestJoinOfSetsIsThatOfTheirWays(t *testing.T) {
	f := modelFollow()
	r := rand.New(rand.NewSource(42))
	for range 5000 {
		p, q := api.Set(r.Intn(1<<api.Ways)), api.Set(r.Intn(1<<api.Ways))
		got, err := span.Join(p, q)
		wantValue(t, at("Join(%d, %d)", p, q), got, err, f.join(p, q))
		if turned := mustJoin(t, mustBack(t, q), mustBack(t, p)); turned != mustBack(t, got) {
			t.Errorf("Join(%d, %d) is %d, but all turned round it is %d", p, q, got, turned)
		}
	}
}

func TestNoSets(t *testing.T) {
	for _, s := range noSets {
		got, err := span.Back(s)
		wantError(t, at("Back(%d)", s), got, err, api.ErrArg)
		for _, other := range []api.Set{0, 1, api.AnyWay, s} {
			got, err = span.Join(s, other)
			wantError(t, at("Join(%d, %d)", s, other), got, err, api.ErrArg)
			got, err = span.Join(other, s)
			wantError(t, at("Join(%d, %d)", other, s), got, err, api.ErrArg)
		}
	}
}

func TestCount(t *testing.T) {
	for _, c := range []struct {
		s    api.Set
		want int
	}{
		{0, 0}, {1, 1}, {28, 3}, {1 << api.After, 1}, {api.AnyWay, 13},
		{-1, 13}, {-2, 12}, {1 << api.Ways, 0}, {api.AnyWay + 1 + 5, 2},
		{math.MaxInt, 13}, {math.MinInt, 0}, {math.MinInt + 1, 1},
	} {
		if got := span.Count(c.s); got != c.want {
			t.Errorf("Count(%d): %d; %d is wanted", c.s, got, c.want)
		}
	}
}
