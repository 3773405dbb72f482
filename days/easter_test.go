package days_test

import (
	"math"
	"testing"

	"almanac/api"
	"almanac/days"
)

// gauss is Easter's month and day in the west, reckoned in a way of its own (of Meeus, Jones and Butcher).
func gauss(y int) (month, day int) {
	a, b, c := y%19, y/100, y%100
	d, e, g := b/4, b%4, (8*b+13)/25
	h := (19*a + b - d - g + 15) % 30
	i, k := c/4, c%4
	l := (32 + 2*e + 2*i - h - k) % 7
	m := (a + 11*h + 19*l) / 433
	month = (h + l - 7*m + 90) / 25
	return month, (h + l - 7*m + 33*month + 19) % 32
}

// meeus is Easter's month and day in the east, by the Julian calendar.
func meeus(y int) (month, day int) {
	d := (19*(y%19) + 15) % 30
	e := (2*(y%4) + 4*(y%7) - d + 34) % 7
	return (d + e + 114) / 31, (d+e+114)%31 + 1
}

// lastEaster is the last year whose Easter is there: all days end with 18 August of it, by the Gregorian calendar.
const lastEaster = 12921

func TestEasterYears(t *testing.T) {
	for y := 1; y <= lastEaster; y++ {
		month, day := gauss(y)
		n, err := days.Easter(y, false)
		wantValue(t, at("1.6: Easter(%d, false)", y), n, err, mustDay(t, api.Gregorian, y, month, day))
		month, day = meeus(y)
		n, err = days.Easter(y, true)
		wantValue(t, at("1.6: Easter(%d, true)", y), n, err, mustDay(t, api.Julian, y, month, day))
	}
}

// TestEasterKnown has Easters that were: the first and last there may be in the west, and those of which the full moon is mended.
func TestEasterKnown(t *testing.T) {
	for _, k := range []struct {
		year, month, day int
		east             bool
	}{
		{2024, 3, 31, false}, {2025, 4, 20, false}, {1818, 3, 22, false}, {2038, 4, 25, false}, {1981, 4, 19, false}, {1954, 4, 18, false}, {2000, 4, 23, false},
		{2024, 5, 5, true}, {2025, 4, 20, true}, {2010, 4, 4, true}, {1983, 5, 8, true}, {2000, 4, 30, true},
	} {
		n, err := days.Easter(k.year, k.east)
		wantValue(t, at("1.6: Easter(%d, %v)", k.year, k.east), n, err, mustDay(t, api.Gregorian, k.year, k.month, k.day))
	}
	n, err := days.Easter(2024, false)
	wantValue(t, at("1.6: Easter(2024, false)"), n, err, 19813)
}

func TestNoEaster(t *testing.T) {
	for _, y := range []int{math.MinInt, -api.MaxYear, -1, 0, lastEaster + 1, api.MaxYear, api.MaxYear + 1, math.MaxInt} {
		for _, east := range []bool{false, true} {
			n, err := days.Easter(y, east)
			wantError(t, at("1.6: Easter(%d, %v)", y, east), n, err, api.ErrRange)
		}
	}
}
