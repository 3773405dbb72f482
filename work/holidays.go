package work

import (
	"slices"

	"almanac/api"
	"almanac/days"
)

const (
	saturday   = 6
	sunday     = 7
	weekDays   = 7
	yearMonths = 12
)

// holidaysOf are the days to which those holidays go that would be in a year; rising, each once.
func holidaysOf(l []api.Holiday, year int) []int {
	var all []int
	for _, x := range l {
		if !within(year, x.From, x.To) {
			continue
		}
		for _, day := range wouldBe(x, year) {
			all = append(all, goes(day, x.Moves))
		}
	}
	slices.Sort(all)
	return slices.Compact(all)
}

// goes is the day to which a holiday goes that would be on a day.
func goes(day, moves int) int {
	switch weekday := days.Weekday(day); {
	case weekday == saturday && moves == api.Monday:
		return day + 2
	case weekday == saturday && moves == api.Nearest:
		return day - 1
	case weekday == sunday && moves != api.Stay:
		return day + 1
	}
	return day
}

// wouldBe are the days of a year on which a holiday would be.
func wouldBe(x api.Holiday, year int) []int {
	switch x.Kind {
	case api.OnDate:
		return onDate(x, year)
	case api.OnNth:
		return onNth(x, year)
	}
	// Each year of which holidays are asked has its Easter.
	easter, _ := days.Easter(year, x.Kind == api.OnEast)
	return []int{easter + x.Offset}
}

// onDate are the days of a year that have the holiday's month and day in its calendar: more than one, where that has shorter years.
func onDate(x api.Holiday, year int) []int {
	first, end := firstOf(year, 1), firstOf(year+1, 1)
	from, _ := days.Of(x.Cal, first)
	to, _ := days.Of(x.Cal, end-1)
	var l []int
	for y := from.Year; y <= to.Year; y++ {
		day, err := days.Day(api.Date{Cal: x.Cal, Year: y, Month: x.Month, Day: x.Day})
		if err == nil && day >= first && day < end {
			l = append(l, day)
		}
	}
	return l
}

// onNth is the N-th of the month's weekdays, if it has one.
func onNth(x api.Holiday, year int) []int {
	first, end := firstOf(year, x.Month), firstOf(year, x.Month+1)
	if x.Month == yearMonths {
		end = firstOf(year+1, 1)
	}
	// From behind it is counted from the first such weekday behind the month: -1 is the one a week ahead of that.
	day := weekdayFrom(end, x.Weekday) + weekDays*x.N
	if x.N > 0 {
		day = weekdayFrom(first, x.Weekday) + weekDays*(x.N-1)
	}
	if day < first || day >= end {
		return nil
	}
	return []int{day}
}

// firstOf is the first day of a month of the Gregorian calendar. All years that have holidays are there, and the one behind them.
func firstOf(year, month int) int {
	day, _ := days.Day(api.Date{Cal: api.Gregorian, Year: year, Month: month, Day: 1})
	return day
}

// weekdayFrom is the first such weekday from a day on.
func weekdayFrom(day, weekday int) int {
	return day + (weekday-days.Weekday(day)+weekDays)%weekDays
}
