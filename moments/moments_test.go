package moments_test

import (
	"math"
	"math/rand"
	"slices"
	"testing"

	"almanac/api"
	"almanac/moments"
)

// Promise 5.1.

func TestEnds(t *testing.T) {
	if moments.Low != -1152921504606846976 || moments.High != 1152921504606846976 {
		t.Errorf("Low and High are %d and %d", moments.Low, moments.High)
	}
}

func TestOf(t *testing.T) {
	for _, c := range []struct{ in, want []int }{
		{[]int{}, []int{}},
		{[]int{3, 7}, []int{3, 7}},
		{[]int{3, 4}, []int{3, 4}},
		{[]int{1, 2, 3, 4}, []int{1, 2, 3, 4}},
		{[]int{3, 4, 1, 2}, []int{1, 2, 3, 4}},
		{[]int{1, 2, 2, 4}, []int{1, 4}},
		{[]int{2, 4, 1, 2}, []int{1, 4}},
		{[]int{1, 5, 3, 8}, []int{1, 8}},
		{[]int{1, 9, 3, 5}, []int{1, 9}},
		{[]int{1, 9, 3, 5, 8, 12}, []int{1, 12}},
		{[]int{1, 9, 3, 5, 6, 7, 9, 10}, []int{1, 10}},
		{[]int{3, 5, 3, 5, 3, 5}, []int{3, 5}},
		{[]int{3, 4, 3, 9, 3, 5}, []int{3, 9}},
		{[]int{1, 2, 5, 6, 2, 5}, []int{1, 6}},
		{[]int{-9, -7, -3, 2}, []int{-9, -7, -3, 2}},
	} {
		wantSpans(t, at("Of(%v)", spans(c.in...)), of(c.in...), c.want...)
	}
}

func TestOfEmptySpans(t *testing.T) {
	for _, c := range []struct{ in, want []int }{
		{[]int{5, 5}, []int{}},
		{[]int{5, 4}, []int{}},
		{[]int{math.MaxInt, math.MinInt}, []int{}},
		{[]int{moments.High, moments.Low}, []int{}},
		{[]int{0, 0, 1, 0}, []int{}},
		{[]int{1, 3, 3, 3, 4, 6}, []int{1, 3, 4, 6}},
		{[]int{1, 3, 4, 3, 4, 6}, []int{1, 3, 4, 6}},
		{[]int{1, 3, 6, 0, 4, 6}, []int{1, 3, 4, 6}},
	} {
		wantSpans(t, at("Of(%v)", spans(c.in...)), of(c.in...), c.want...)
	}
}

func TestOfAtTheEnds(t *testing.T) {
	for _, c := range []struct{ in, want []int }{
		{[]int{moments.Low, moments.High}, []int{moments.Low, moments.High}},
		{[]int{math.MinInt, math.MaxInt}, []int{moments.Low, moments.High}},
		{[]int{math.MinInt, 3}, []int{moments.Low, 3}},
		{[]int{3, math.MaxInt}, []int{3, moments.High}},
		{[]int{moments.Low - 1, moments.Low + 1}, []int{moments.Low, moments.Low + 1}},
		{[]int{moments.High - 1, moments.High + 1}, []int{moments.High - 1, moments.High}},
		{[]int{moments.Low - 1, moments.Low}, []int{}},
		{[]int{moments.High, moments.High + 1}, []int{}},
		{[]int{math.MinInt, moments.Low}, []int{}},
		{[]int{moments.High, math.MaxInt}, []int{}},
		{[]int{math.MinInt, math.MinInt + 9, math.MaxInt - 9, math.MaxInt, 1, 2}, []int{1, 2}},
		{[]int{math.MinInt, -5, 5, math.MaxInt, moments.Low - 7, -8}, []int{moments.Low, -5, 5, moments.High}},
	} {
		wantSpans(t, at("Of(%v)", spans(c.in...)), of(c.in...), c.want...)
	}
}

func TestOfDrawnSpans(t *testing.T) {
	r := rand.New(rand.NewSource(51))
	for range 2000 {
		in := drawn(r)
		wantTimes(t, at("Of(%v)", in), moments.Of[api.Instant](in...), modelOf(in).has, window())
	}
}

func TestOfManySpans(t *testing.T) {
	var in, want []api.Span
	for i := range 100_000 {
		in = append(in, api.Span{From: 3 * (99_999 - i), To: 3*(99_999-i) + 2})
		want = append(want, api.Span{From: 3 * i, To: 3*i + 2})
	}
	s := moments.Of[api.Instant](in...)
	if got := s.Spans(); !slices.Equal(got, want) {
		t.Errorf("of %d spans there are %d, or others", len(want), len(got))
	}
	wantSpans(t, at("filled up"), s.Or(s.Shift(1)), 0, 300_000)
}

func TestOfEachKindOfTime(t *testing.T) {
	type hour int
	wantSpans(t, at("of int"), moments.Of[int](spans(1, 2, 2, 3)...), 1, 3)
	wantSpans(t, at("of Local"), moments.Of[api.Local](spans(1, 2, 2, 3)...), 1, 3)
	hours := moments.Of[hour](spans(9, 12, 13, 17)...)
	wantSpans(t, at("of hours"), hours, 9, 12, 13, 17)
	next, err := hours.Next(hour(12))
	wantTime(t, at("Next of hours"), next, err, hour(13))
	room, err := hours.Room(hour(9), 4)
	wantTime(t, at("Room of hours"), room, err, hour(13))
}

func TestOfLeavesItsSpansAlone(t *testing.T) {
	in := spans(5, 9, math.MinInt, 2, 3, 3, 8, 11, 20, 30)
	ahead := slices.Clone(in)
	s := moments.Of[api.Instant](in[:4]...)
	if !slices.Equal(in, ahead) {
		t.Errorf("Of wrote into its list: %v; %v is wanted", in, ahead)
	}
	for i := range in {
		in[i] = api.Span{From: -100, To: 100}
	}
	wantSpans(t, at("behind a change of the list"), s, moments.Low, 2, 5, 11)
}

func TestZeroSet(t *testing.T) {
	var zero set
	wantSpans(t, at("the zero Set"), zero)
	for x := range zero.All() {
		t.Errorf("the zero Set tells %v", x)
	}
	for _, x := range append(window(), far...) {
		if zero.Has(api.Instant(x)) {
			t.Errorf("the zero Set has %d", x)
		}
	}
	wantSpans(t, at("not the zero Set"), zero.Not(), moments.Low, moments.High)
	wantSpans(t, at("zero or some"), zero.Or(of(1, 2)), 1, 2)
	wantSpans(t, at("some or zero"), of(1, 2).Or(zero), 1, 2)
	wantSpans(t, at("zero and some"), zero.And(of(1, 2)))
	wantSpans(t, at("some and zero"), of(1, 2).And(zero))
	wantSpans(t, at("zero less some"), zero.Less(of(1, 2)))
	wantSpans(t, at("some less zero"), of(1, 2).Less(zero), 1, 2)
	wantSpans(t, at("zero, shifted"), zero.Shift(5))
	wantSpans(t, at("zero, closed"), zero.Close(math.MaxInt))
	wantSpans(t, at("zero, the long ones"), zero.Long(math.MinInt))
}

func TestSpansAreFresh(t *testing.T) {
	s := of(1, 3, 5, 8, 10, 11)
	first, second := s.Spans(), s.Spans()
	for i := range first {
		first[i] = api.Span{From: 77, To: 78}
	}
	_ = append(first[:1], spans(90, 91)...)
	if !slices.Equal(second, spans(1, 3, 5, 8, 10, 11)) {
		t.Errorf("one list of spans writes into the other: %v", second)
	}
	wantSpans(t, at("behind a change of its spans"), s, 1, 3, 5, 8, 10, 11)
}

func TestAll(t *testing.T) {
	s := of(10, 11, 1, 3, 5, 8)
	want := spans(1, 3, 5, 8, 10, 11)
	seq := s.All()
	for range 3 {
		if got := slices.Collect(seq); !slices.Equal(got, want) {
			t.Errorf("All: %v; %v is wanted", got, want)
		}
	}
	for most := range want {
		var got []api.Span
		for x := range seq {
			got = append(got, x)
			if len(got) > most {
				break
			}
		}
		if !slices.Equal(got, want[:most+1]) {
			t.Errorf("the first %d of All: %v; %v is wanted", most+1, got, want[:most+1])
		}
	}
}

func TestAllStopsWhenNoMoreIsAskedFor(t *testing.T) {
	asked := 0
	of(1, 3, 5, 8, 10, 11).All()(func(api.Span) bool {
		asked++
		return asked < 2
	})
	if asked != 2 {
		t.Errorf("All told %d spans; two were asked for", asked)
	}
}

func TestAllWithinAll(t *testing.T) {
	seq := of(1, 3, 5, 8, 10, 11).All()
	var got []api.Span
	for x := range seq {
		for y := range seq {
			got = append(got, api.Span{From: x.From, To: y.To})
		}
	}
	if want := spans(1, 3, 1, 8, 1, 11, 5, 3, 5, 8, 5, 11, 10, 3, 10, 8, 10, 11); !slices.Equal(got, want) {
		t.Errorf("All within All: %v; %v is wanted", got, want)
	}
}

func TestHas(t *testing.T) {
	s := of(-8, -5, 0, 1, 5, 9)
	has := []int{-8, -7, -6, 0, 5, 6, 7, 8}
	for x := -20; x <= 20; x++ {
		if got := s.Has(api.Instant(x)); got != slices.Contains(has, x) {
			t.Errorf("Has(%d): %v", x, got)
		}
	}
}

func TestHasAtTheEnds(t *testing.T) {
	for _, x := range far {
		if got := whole().Has(api.Instant(x)); got != isTime(x) {
			t.Errorf("the whole has %d: %v", x, got)
		}
		if of(-8, 9).Has(api.Instant(x)) {
			t.Errorf("-8 to 9 has %d", x)
		}
		if got := of(-8, 9).Not().Has(api.Instant(x)); got != isTime(x) {
			t.Errorf("all but -8 to 9 has %d: %v", x, got)
		}
	}
}

// A set is a value: whatever is asked of it, or of what was made of it, it stays as it is.
func TestSetsNeverChange(t *testing.T) {
	in, other := spans(-9, -7, -3, 2, 4, 5, 9, 20), spans(-8, -2, 5, 9, 19, 30)
	s, o := moments.Of[api.Instant](in...), moments.Of[api.Instant](other...)
	copied := s
	calls := []func(set) set{
		func(a set) set { return a.Or(o) }, func(a set) set { return o.Or(a) },
		func(a set) set { return a.And(o) }, func(a set) set { return o.And(a) },
		func(a set) set { return a.Less(o) }, func(a set) set { return o.Less(a) },
		set.Not,
		func(a set) set { return a.Shift(0) }, func(a set) set { return a.Shift(7) },
		func(a set) set { return a.Close(0) }, func(a set) set { return a.Close(4) }, func(a set) set { return a.Close(100) },
		func(a set) set { return a.Long(0) }, func(a set) set { return a.Long(3) },
	}
	for i, f := range calls {
		made := f(s)
		ahead := made.Spans()
		for _, g := range calls {
			g(made)
			g(s)
		}
		if got := made.Spans(); !slices.Equal(got, ahead) {
			t.Errorf("what call %d made changed from %v to %v", i, ahead, got)
		}
	}
	for _, a := range []set{s, copied} {
		if got := a.Spans(); !slices.Equal(got, in) {
			t.Errorf("the set changed from %v to %v", in, got)
		}
	}
	if got := o.Spans(); !slices.Equal(got, other) {
		t.Errorf("the other set changed from %v to %v", other, got)
	}
}
