package cron_test

import (
	"slices"
	"time"

	"almanac/api"
)

// The model tells by the library of Go, and by going from day to day, what chapter 7 says of days.

func weekday(d time.Time) int { return (int(d.Weekday())+6)%7 + 1 }

func sameMonth(a, b time.Time) bool { return a.Month() == b.Month() && a.Year() == b.Year() }

// nearest is, of the days from Monday to Friday of a day's month, the one with the fewest days between.
func nearest(d time.Time) time.Time {
	for far := 0; ; far++ {
		for _, x := range []time.Time{d.AddDate(0, 0, -far), d.AddDate(0, 0, far)} {
			if weekday(x) <= 5 && sameMonth(x, d) {
				return x
			}
		}
	}
}

// modelByMonth says whether a day fits by the month.
func modelByMonth(c api.Cron, d time.Time) bool {
	if slices.Contains(c.Days, d.Day()) || c.Last && !sameMonth(d, d.AddDate(0, 0, 1)) {
		return true
	}
	for x := d.AddDate(0, 0, 1-d.Day()); sameMonth(x, d); x = x.AddDate(0, 0, 1) {
		if slices.Contains(c.Near, x.Day()) && nearest(x).Equal(d) {
			return true
		}
	}
	return false
}

// modelByWeek says whether a day fits by the week.
func modelByWeek(c api.Cron, d time.Time) bool {
	if slices.Contains(c.Weekdays, weekday(d)) {
		return true
	}
	if slices.Contains(c.LastOf, weekday(d)) && !sameMonth(d, d.AddDate(0, 0, 7)) {
		return true
	}
	n := 0
	for x := d; sameMonth(x, d); x = x.AddDate(0, 0, -7) {
		n++
	}
	return slices.Contains(c.Nth, api.Nth{N: n, Day: weekday(d)})
}

// modelDay says whether a day fits, of a month that is told.
func modelDay(c api.Cron, d time.Time) bool {
	if !slices.Contains(c.Months, int(d.Month())) {
		return false
	}
	if c.Any && c.AnyWeek {
		return true
	}
	if c.Any {
		return modelByWeek(c, d)
	}
	if c.AnyWeek {
		return modelByMonth(c, d)
	}
	return modelByMonth(c, d) || modelByWeek(c, d)
}

// modelFits says whether a time does.
func modelFits(c api.Cron, t api.Local) bool {
	x := shown(t)
	return slices.Contains(c.Minutes, x.Minute()) && slices.Contains(c.Hours, x.Hour()) && modelDay(c, x.Truncate(24*time.Hour))
}

// modelNext goes minute by minute, and past days that don't fit: the first time, or none.
func modelNext(c api.Cron, behind api.Local) (api.Local, bool) {
	first := dayOf(behind)
	for day := first; day <= min(first+api.Horizon, api.MaxDay); day++ {
		midnight := api.Local(day * api.Daily)
		if !modelDay(c, shown(midnight)) {
			continue
		}
		for minute := range api.Local(1440) {
			t := midnight + 60*minute
			if t > behind && slices.Contains(c.Minutes, int(minute%60)) && slices.Contains(c.Hours, int(minute/60)) {
				return t, true
			}
		}
	}
	return 0, false
}

// dayOf is the day of a time.
func dayOf(t api.Local) int {
	day := int(t) / api.Daily
	if int(t)%api.Daily < 0 {
		day--
	}
	return day
}
