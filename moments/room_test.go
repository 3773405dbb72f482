package moments_test

import (
	"math"
	"math/rand"
	"testing"

	"almanac/api"
	"almanac/moments"
)

// Promise 5.2: times that are looked for.

func TestNext(t *testing.T) {
	s := of(-8, -5, 0, 1, 5, 9)
	for _, c := range []struct{ t, want int }{
		{math.MinInt, -8}, {moments.Low, -8}, {-9, -8}, {-8, -8}, {-7, -7}, {-6, -6}, {-5, 0},
		{-1, 0}, {0, 0}, {1, 5}, {4, 5}, {5, 5}, {8, 8},
	} {
		got, err := s.Next(api.Instant(c.t))
		wantTime(t, at("Next(%d)", c.t), got, err, api.Instant(c.want))
	}
	for _, x := range []int{9, 10, moments.High - 1, moments.High, math.MaxInt} {
		got, err := s.Next(api.Instant(x))
		wantError(t, at("Next(%d)", x), got, err, api.ErrNone)
	}
}

func TestNextAtTheEnds(t *testing.T) {
	for _, x := range far {
		got, err := whole().Next(api.Instant(x))
		if x < moments.High {
			wantTime(t, at("Next(%d) of all", x), got, err, api.Instant(max(x, moments.Low)))
		} else {
			wantError(t, at("Next(%d) of all", x), got, err, api.ErrNone)
		}
		got, err = set{}.Next(api.Instant(x))
		wantError(t, at("Next(%d) of none", x), got, err, api.ErrNone)
	}
}

func TestRoom(t *testing.T) {
	s := of(0, 3, 5, 7, 10, 15)
	for _, c := range []struct{ t, n, want int }{
		{0, 1, 0}, {0, 3, 0}, {0, 4, 10}, {1, 2, 1}, {1, 3, 10}, {2, 1, 2}, {2, 2, 5}, {3, 1, 5},
		{3, 3, 10}, {6, 1, 6}, {6, 2, 10}, {11, 4, 11}, {14, 1, 14}, {-5, 3, 0}, {-5, 5, 10},
		{math.MinInt, 2, 0}, {math.MinInt, 5, 10}, {moments.Low - 1, 1, 0},
	} {
		got, err := s.Room(api.Instant(c.t), c.n)
		wantTime(t, at("Room(%d, %d)", c.t, c.n), got, err, api.Instant(c.want))
	}
	for _, c := range []struct{ t, n int }{
		{0, 6}, {11, 5}, {14, 2}, {15, 1}, {math.MaxInt, 1}, {math.MinInt, 6}, {math.MinInt, math.MaxInt}, {math.MaxInt, math.MaxInt},
	} {
		got, err := s.Room(api.Instant(c.t), c.n)
		wantError(t, at("Room(%d, %d)", c.t, c.n), got, err, api.ErrNone)
	}
}

func TestRoomOfNoTimes(t *testing.T) {
	for _, s := range []set{{}, of(0, 3), whole()} {
		for _, n := range []int{0, -1, math.MinInt} {
			for _, x := range append([]int{0, 3}, far...) {
				got, err := s.Room(api.Instant(x), n)
				wantError(t, at("Room(%d, %d) of %v", x, n, s.Spans()), got, err, api.ErrArg)
			}
		}
	}
	got, err := set{}.Room(0, 1)
	wantError(t, at("Room of none"), got, err, api.ErrNone)
}

func TestRoomOfAllTimes(t *testing.T) {
	for _, x := range []int{math.MinInt, moments.Low - 1, moments.Low} {
		got, err := whole().Room(api.Instant(x), 1<<61)
		wantTime(t, at("Room(%d, 2^61)", x), got, err, moments.Low)
		got, err = whole().Room(api.Instant(x), 1<<61+1)
		wantError(t, at("Room(%d, 2^61 + 1)", x), got, err, api.ErrNone)
	}
	got, err := whole().Room(moments.Low+1, 1<<61-1)
	wantTime(t, at("Room(Low + 1, 2^61 - 1)"), got, err, moments.Low+1)
	got, err = whole().Room(moments.Low+1, 1<<61)
	wantError(t, at("Room(Low + 1, 2^61)"), got, err, api.ErrNone)
	got, err = whole().Room(moments.High-2, 2)
	wantTime(t, at("Room(High - 2, 2)"), got, err, moments.High-2)
	got, err = whole().Room(moments.High-2, 3)
	wantError(t, at("Room(High - 2, 3)"), got, err, api.ErrNone)
}

func TestNextAndRoomOfDrawnSets(t *testing.T) {
	r := rand.New(rand.NewSource(56))
	for range 500 {
		x := drawn(r)
		s, m := moments.Of[api.Instant](x...), modelOf(x)
		for _, from := range append(window(), far...) {
			got, err := s.Next(api.Instant(from))
			want, is := m.room(from, 1)
			wantFound(t, at("Next(%d) of %v", from, x), got, err, want, is)
			n := 1 + r.Intn(12)
			got, err = s.Room(api.Instant(from), n)
			want, is = m.room(from, n)
			wantFound(t, at("Room(%d, %d) of %v", from, n, x), got, err, want, is)
		}
	}
}

// wantFound says whether a call answered this time, or, if there is none, that.
func wantFound(t *testing.T, what func() string, got api.Instant, err error, want int, is bool) {
	t.Helper()
	if is {
		wantTime(t, what, got, err, api.Instant(want))
	} else {
		wantError(t, what, got, err, api.ErrNone)
	}
}
