package clock_test

import (
	"math"
	"testing"
	"time"

	"almanac/api"
	"almanac/clock"
)

func TestSplitAndJoin(t *testing.T) {
	for _, k := range []struct {
		time        api.Local
		day, second int
	}{
		{0, 0, 0}, {1, 0, 1}, {-1, -1, 86399}, {86399, 0, 86399}, {86400, 1, 0}, {-86400, -1, 0}, {-86401, -2, 86399},
		{1728000000 - 86400, 19999, 0},
		{firstTime, -api.MaxDay, 0}, {lastTime, api.MaxDay, 86399},
	} {
		day, second, err := clock.Split(k.time)
		wantValue(t, at("2.1: the day of Split(%d)", k.time), day, err, k.day)
		wantValue(t, at("2.1: the second of Split(%d)", k.time), second, err, k.second)
		back, err := clock.Join(k.day, k.second)
		wantValue(t, at("2.1: Join(%d, %d)", k.day, k.second), back, err, k.time)
	}
	for _, x := range someTimes() {
		day, second, err := clock.Split(x)
		if second < 0 || second > 86399 {
			t.Errorf("2.1: Split(%d): second %d", x, second)
		}
		wantValue(t, at("2.1: Split(%d)", x), api.Local(day*api.Daily+second), err, x)
		back, err := clock.Join(day, second)
		wantValue(t, at("2.1: Join(%d, %d)", day, second), back, err, x)
	}
}

func TestNoSuchTime(t *testing.T) {
	for _, x := range noTimes {
		day, second, err := clock.Split(x)
		wantError(t, at("2.1: Split(%d)", x), [2]int{day, second}, err, api.ErrRange)
		d, c, err := clock.Tell(x)
		wantError(t, at("2.1: Tell(%d)", x), d, err, api.ErrRange)
		wantError(t, at("2.1: Tell(%d)", x), c, err, api.ErrRange)
	}
	for _, day := range noDays {
		x, err := clock.Join(day, 0)
		wantError(t, at("2.1: Join(%d, 0)", day), x, err, api.ErrRange)
		x, err = clock.Join(day, 86399)
		wantError(t, at("2.1: Join(%d, 86399)", day), x, err, api.ErrRange)
		x, err = clock.Of(day, api.Clock{Hour: 23, Minute: 59, Second: 59})
		wantError(t, at("2.1: Of(%d, 23:59:59)", day), x, err, api.ErrRange)
	}
	for _, day := range append([]int{0, api.MaxDay, -api.MaxDay}, noDays...) {
		for _, second := range []int{math.MinInt, -1, 86400, math.MaxInt} {
			x, err := clock.Join(day, second)
			wantError(t, at("2.1: Join(%d, %d)", day, second), x, err, api.ErrDate)
		}
		for _, n := range []int{math.MinInt, -1, 60, math.MaxInt} {
			for _, c := range []api.Clock{{Hour: n}, {Minute: n}, {Second: n}, {Hour: 24}, {Hour: 24, Second: -1}, {Hour: -1, Minute: 59}} {
				x, err := clock.Of(day, c)
				wantError(t, at("2.1: Of(%d, %v)", day, c), x, err, api.ErrDate)
			}
		}
	}
}

// TestTell holds dates and clocks against those of Go's library.
func TestTell(t *testing.T) {
	for _, x := range someTimes() {
		u := time.Unix(int64(x), 0).UTC()
		date := api.Date{Cal: api.Gregorian, Year: u.Year(), Month: int(u.Month()), Day: u.Day()}
		shown := api.Clock{Hour: u.Hour(), Minute: u.Minute(), Second: u.Second()}
		d, c, err := clock.Tell(x)
		wantValue(t, at("2.1: the date of Tell(%d)", x), d, err, date)
		wantValue(t, at("2.1: the clock of Tell(%d)", x), c, err, shown)
		day, _, err := clock.Split(x)
		if err != nil {
			t.Fatal(err)
		}
		back, err := clock.Of(day, c)
		wantValue(t, at("2.1: Of(%d, %v)", day, c), back, err, x)
	}
}
