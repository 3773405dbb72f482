package work

import (
	"slices"

	"almanac/api"
	"almanac/days"
)

// Days are asked for from the first day of year 2 on, up to the last one of year 9998: those that go to them would be in years that there are.
const (
	firstDay = -718_797
	lastDay  = 2_932_531
)

func isDay(day int) bool { return within(day, firstDay, lastDay) }

// calendar tells which days have work.
type calendar struct {
	hours api.Hours
	years map[int][]int // the holidays of years that were asked for
}

// calendarOf is the calendar of hours, if they may be.
func calendarOf(h api.Hours) (calendar, error) {
	if err := Check(h); err != nil {
		return calendar{}, err
	}
	return calendar{hours: h, years: map[int][]int{}}, nil
}

// holidays are those of a year, which are worked out once.
func (c calendar) holidays(year int) []int {
	l, ok := c.years[year]
	if !ok {
		l = holidaysOf(c.hours.Holidays, year)
		c.years[year] = l
	}
	return l
}

// isHoliday says whether a day is one, of whatever year.
func (c calendar) isHoliday(day int) bool {
	// The day is one of those that are asked for: it has a date.
	date, _ := days.Of(api.Gregorian, day)
	// A holiday lies, and goes, no further than into the year next to its own.
	for year := date.Year - 1; year <= date.Year+1; year++ {
		if _, ok := slices.BinarySearch(c.holidays(year), day); ok {
			return true
		}
	}
	return false
}

// minutes are those of a day with work.
func (c calendar) minutes(day int) []api.Span {
	l := c.hours.Week[days.Weekday(day)-1]
	if len(l) == 0 || c.isHoliday(day) {
		return nil
	}
	return l
}

func (c calendar) hasWork(day int) bool { return len(c.minutes(day)) > 0 }
