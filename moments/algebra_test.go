package moments_test

import (
	"math"
	"math/rand"
	"testing"

	"almanac/api"
	"almanac/moments"
)

// Promise 5.2: sets that are made of sets.

func TestSetsOfTwo(t *testing.T) {
	for _, c := range []struct{ a, b, or, and, less []int }{
		{[]int{1, 3}, []int{5, 8}, []int{1, 3, 5, 8}, nil, []int{1, 3}},
		{[]int{1, 5}, []int{5, 8}, []int{1, 8}, nil, []int{1, 5}},
		{[]int{1, 6}, []int{5, 8}, []int{1, 8}, []int{5, 6}, []int{1, 5}},
		{[]int{5, 8}, []int{1, 6}, []int{1, 8}, []int{5, 6}, []int{6, 8}},
		{[]int{1, 9}, []int{3, 5}, []int{1, 9}, []int{3, 5}, []int{1, 3, 5, 9}},
		{[]int{3, 5}, []int{1, 9}, []int{1, 9}, []int{3, 5}, nil},
		{[]int{1, 9}, []int{1, 9}, []int{1, 9}, []int{1, 9}, nil},
		{[]int{1, 9}, []int{1, 5}, []int{1, 9}, []int{1, 5}, []int{5, 9}},
		{[]int{1, 9}, []int{5, 9}, []int{1, 9}, []int{5, 9}, []int{1, 5}},
		{[]int{1, 3, 5, 7}, []int{3, 5}, []int{1, 7}, nil, []int{1, 3, 5, 7}},
		{[]int{1, 4, 6, 9, 11, 12}, []int{3, 7, 8, 20}, []int{1, 20}, []int{3, 4, 6, 7, 8, 9, 11, 12}, []int{1, 3, 7, 8}},
		{[]int{math.MinInt, 4}, []int{2, math.MaxInt}, []int{moments.Low, moments.High}, []int{2, 4}, []int{moments.Low, 2}},
	} {
		a, b := of(c.a...), of(c.b...)
		wantSpans(t, at("%v or %v", c.a, c.b), a.Or(b), c.or...)
		wantSpans(t, at("%v and %v", c.a, c.b), a.And(b), c.and...)
		wantSpans(t, at("%v less %v", c.a, c.b), a.Less(b), c.less...)
	}
}

func TestNot(t *testing.T) {
	for _, c := range []struct{ in, want []int }{
		{nil, []int{moments.Low, moments.High}},
		{[]int{moments.Low, moments.High}, nil},
		{[]int{3, 7}, []int{moments.Low, 3, 7, moments.High}},
		{[]int{3, 7, 9, 10}, []int{moments.Low, 3, 7, 9, 10, moments.High}},
		{[]int{moments.Low, 7}, []int{7, moments.High}},
		{[]int{7, moments.High}, []int{moments.Low, 7}},
		{[]int{moments.Low, -1, 1, moments.High}, []int{-1, 1}},
		{[]int{moments.Low + 1, moments.High - 1}, []int{moments.Low, moments.Low + 1, moments.High - 1, moments.High}},
	} {
		wantSpans(t, at("not %v", c.in), of(c.in...).Not(), c.want...)
		wantSpans(t, at("not not %v", c.in), of(c.in...).Not().Not(), c.in...)
	}
}

func TestDrawnSetsOfTwo(t *testing.T) {
	r := rand.New(rand.NewSource(52))
	for range 2000 {
		x, y := drawn(r), drawn(r)
		a, b := moments.Of[api.Instant](x...), moments.Of[api.Instant](y...)
		m, n := modelOf(x), modelOf(y)
		wantTimes(t, at("%v or %v", x, y), a.Or(b), func(t int) bool { return m.has(t) || n.has(t) }, window())
		wantTimes(t, at("%v and %v", x, y), a.And(b), func(t int) bool { return m.has(t) && n.has(t) }, window())
		wantTimes(t, at("%v less %v", x, y), a.Less(b), func(t int) bool { return m.has(t) && !n.has(t) }, window())
		wantTimes(t, at("not %v", x), a.Not(), func(t int) bool { return isTime(t) && !m.has(t) }, window())
	}
}

func TestBooleanAlgebra(t *testing.T) {
	r := rand.New(rand.NewSource(53))
	var none set
	draw := func() set { return moments.Of[api.Instant](drawn(r)...) }
	for range 500 {
		a, b, c := draw(), draw(), draw()
		what := at("of %v, %v and %v", a.Spans(), b.Spans(), c.Spans())
		wantSame(t, what, a.Or(b), b.Or(a))
		wantSame(t, what, a.And(b), b.And(a))
		wantSame(t, what, a.Or(b.Or(c)), a.Or(b).Or(c))
		wantSame(t, what, a.And(b.And(c)), a.And(b).And(c))
		wantSame(t, what, a.And(b.Or(c)), a.And(b).Or(a.And(c)))
		wantSame(t, what, a.Or(b.And(c)), a.Or(b).And(a.Or(c)))
		wantSame(t, what, a.Or(a.And(b)), a)
		wantSame(t, what, a.And(a.Or(b)), a)
		wantSame(t, what, a.Or(a.Not()), whole())
		wantSame(t, what, a.And(a.Not()), none)
		wantSame(t, what, a.Or(none), a)
		wantSame(t, what, a.And(whole()), a)
		wantSame(t, what, a.Not().Not(), a)
		wantSame(t, what, a.Or(b).Not(), a.Not().And(b.Not()))
		wantSame(t, what, a.And(b).Not(), a.Not().Or(b.Not()))
		wantSame(t, what, a.Less(b), a.And(b.Not()))
	}
}

func TestShift(t *testing.T) {
	const most = moments.High - moments.Low - 1
	for _, c := range []struct {
		in   []int
		n    int
		want []int
	}{
		{[]int{1, 3, 5, 8}, 0, []int{1, 3, 5, 8}},
		{[]int{1, 3, 5, 8}, 10, []int{11, 13, 15, 18}},
		{[]int{1, 3, 5, 8}, -10, []int{-9, -7, -5, -2}},
		{[]int{moments.Low, 3, 5, moments.High}, 1, []int{moments.Low + 1, 4, 6, moments.High}},
		{[]int{moments.Low, 3, 5, moments.High}, -1, []int{moments.Low, 2, 4, moments.High - 1}},
		{[]int{1, 3, 5, 8}, moments.High - 2, []int{moments.High - 1, moments.High}},
		{[]int{1, 3, 5, 8}, moments.High - 6, []int{moments.High - 5, moments.High - 3, moments.High - 1, moments.High}},
		{[]int{1, 3, 5, 8}, moments.High - 1, nil},
		{[]int{1, 3, 5, 8}, moments.Low - 1, []int{moments.Low, moments.Low + 2, moments.Low + 4, moments.Low + 7}},
		{[]int{1, 3, 5, 8}, moments.Low - 7, []int{moments.Low, moments.Low + 1}},
		{[]int{1, 3, 5, 8}, moments.Low - 8, nil},
		{[]int{moments.Low, moments.High}, most, []int{moments.High - 1, moments.High}},
		{[]int{moments.Low, moments.High}, -most, []int{moments.Low, moments.Low + 1}},
		{[]int{moments.Low, moments.Low + 1}, most, []int{moments.High - 1, moments.High}},
		{[]int{moments.High - 1, moments.High}, -most, []int{moments.Low, moments.Low + 1}},
	} {
		wantSpans(t, at("%v, shifted by %d", c.in, c.n), of(c.in...).Shift(c.n), c.want...)
	}
}

func TestShiftBeyondTheEnds(t *testing.T) {
	for _, s := range []set{{}, of(1, 3, 5, 8), whole(), of(1, 3).Not(), of(moments.Low, moments.Low+1, moments.High-1, moments.High)} {
		for _, n := range beyond {
			wantSpans(t, at("%v, shifted by %d", s.Spans(), n), s.Shift(n))
		}
	}
}

func TestShiftDrawnSets(t *testing.T) {
	r := rand.New(rand.NewSource(54))
	for range 2000 {
		x := drawn(r)
		n := []int{r.Intn(100) - 50, moments.Low + r.Intn(100) - 50, moments.High + r.Intn(100) - 50}[r.Intn(3)]
		m := modelOf(x)
		// Both are from -2^61 to 2^61, so no number here is beyond all.
		moved := func(t int) bool { return isTime(t) && m.has(t-n) }
		var times []int
		for _, t := range window() {
			times = append(times, t+n)
		}
		wantTimes(t, at("%v, shifted by %d", x, n), moments.Of[api.Instant](x...).Shift(n), moved, times)
	}
}

func TestClose(t *testing.T) {
	in := []int{1, 3, 4, 6, 9, 10, 15, 16}
	for _, c := range []struct {
		gap  int
		want []int
	}{
		{math.MinInt, in},
		{-5, in},
		{-1, in},
		{0, in},
		{1, []int{1, 6, 9, 10, 15, 16}},
		{2, []int{1, 6, 9, 10, 15, 16}},
		{3, []int{1, 10, 15, 16}},
		{4, []int{1, 10, 15, 16}},
		{5, []int{1, 16}},
		{math.MaxInt, []int{1, 16}},
	} {
		wantSpans(t, at("%v, closed by %d", in, c.gap), of(in...).Close(c.gap), c.want...)
	}
}

// A gap is taken as it is in the set, not as it is behind what was closed ahead of it.
func TestCloseOneByOne(t *testing.T) {
	wantSpans(t, at("each gap of 2"), of(0, 1, 3, 4, 6, 7, 9, 10).Close(2), 0, 10)
	wantSpans(t, at("each gap of 2, but for one"), of(0, 1, 3, 4, 7, 8, 10, 11).Close(2), 0, 4, 7, 11)
}

func TestCloseFarOff(t *testing.T) {
	const widest = moments.High - moments.Low - 2
	ends := of(moments.Low, moments.Low+1, moments.High-1, moments.High)
	wantSame(t, at("by one too few"), ends.Close(widest-1), ends)
	wantSame(t, at("by just as many"), ends.Close(widest), whole())
	wantSame(t, at("by the most"), ends.Close(math.MaxInt), whole())
}

func TestLong(t *testing.T) {
	in := []int{1, 2, 4, 7, 9, 11, 20, 23}
	for _, c := range []struct {
		n    int
		want []int
	}{
		{math.MinInt, in},
		{-1, in},
		{0, in},
		{1, in},
		{2, []int{4, 7, 9, 11, 20, 23}},
		{3, []int{4, 7, 20, 23}},
		{4, nil},
		{math.MaxInt, nil},
	} {
		wantSpans(t, at("of %v those of %d", in, c.n), of(in...).Long(c.n), c.want...)
	}
	wantSame(t, at("all times"), whole().Long(1<<61), whole())
	wantSpans(t, at("more than all times"), whole().Long(1<<61+1))
}

func TestCloseAndLongOfDrawnSets(t *testing.T) {
	r := rand.New(rand.NewSource(55))
	for range 2000 {
		x, n := drawn(r), r.Intn(14)-2
		s, m := moments.Of[api.Instant](x...), modelOf(x)
		wantTimes(t, at("%v, closed by %d", x, n), s.Close(n), func(t int) bool { return m.closed(t, n) }, window())
		wantTimes(t, at("of %v those of %d", x, n), s.Long(n), func(t int) bool { return m.long(t, n) }, window())
	}
}
