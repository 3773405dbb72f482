package days

import (
	"sort"

	"almanac/api"
)

// calendar is how a calendar goes. Its functions hold for the years and months that there are, and for the years next to them.
type calendar struct {
	leap   func(year int) bool
	months func(year int) int
	length func(year, month int) int
	start  func(year int) int // the day with which a year begins
}

// calendarOf tells how a calendar goes.
func calendarOf(c api.Cal) (calendar, error) {
	switch c {
	case api.Gregorian:
		return gregorian(), nil
	case api.Julian:
		return roman(-719164, everyFourth(0)), nil
	case api.Coptic:
		return thirteen(-615558, everyFourth(3)), nil
	case api.Ethiopic:
		return thirteen(-716367, everyFourth(3)), nil
	case api.Islamic:
		return steady(-492148, spread(14, 11, 30), 12, 30, 29, 30, 29, 30, 29, 30, 29, 30, 29, 30, 29), nil
	case api.Persian:
		return steady(-492267, persianLeaps(), 12, 31, 31, 31, 31, 31, 31, 30, 30, 30, 30, 30, 29), nil
	case api.Hebrew:
		return hebrew(), nil
	case api.Saka:
		return steady(-690593, later(gregorianLeaps(), 78), 1, 30, 31, 31, 31, 31, 31, 30, 30, 30, 30, 30, 30), nil
	case api.French:
		return thirteen(-64748, frenchLeaps()), nil
	case api.Egyptian:
		return thirteen(-991950, noLeaps()), nil
	}
	return calendar{}, api.ErrCal
}

func gregorian() calendar { return roman(-719162, gregorianLeaps()) }

// roman has the months of the Romans.
func roman(first int, l leaps) calendar {
	return steady(first, l, 2, 31, 28, 31, 30, 31, 30, 31, 31, 30, 31, 30, 31)
}

// thirteen has twelve months of 30 days, and a few days behind them.
func thirteen(first int, l leaps) calendar {
	return steady(first, l, 13, 30, 30, 30, 30, 30, 30, 30, 30, 30, 30, 30, 30, 5)
}

// steady is a calendar whose months have these lengths each year, but for the month long, which has a day more in leap years. Year 1 begins on day first.
func steady(first int, l leaps, long int, lengths ...int) calendar {
	common := 0
	for i := range len(lengths) {
		common += lengths[i]
	}
	return calendar{
		leap:   l.is,
		months: func(int) int { return len(lengths) },
		length: func(year, month int) int {
			if month == long && l.is(year) {
				return lengths[month-1] + 1
			}
			return lengths[month-1]
		},
		start: func(year int) int { return first + common*(year-1) + l.ahead(year) },
	}
}

// lengthOf is how many days a month has, if there is such a month.
func (c calendar) lengthOf(year, month int) (int, error) {
	if month < 1 || month > c.months(year) {
		return 0, api.ErrDate
	}
	return c.length(year, month), nil
}

// day is the number of a date that the calendar has.
func (c calendar) day(year, month, dayOfMonth int) int {
	day := c.start(year) + dayOfMonth - 1
	for i := range month - 1 {
		day += c.length(year, i+1)
	}
	return day
}

// yearOf is the year of a day that is there: each of these days is of a year that is there, in every calendar.
func (c calendar) yearOf(day int) int {
	behind := sort.Search(2*api.MaxYear+1, func(i int) bool { return c.start(i-api.MaxYear) > day })
	return behind - api.MaxYear - 1
}

// monthOf is the month, and its day, of the day that so many days of its year are ahead of.
func (c calendar) monthOf(year, ahead int) (month, dayOfMonth int) {
	for i := range c.months(year) {
		month = i + 1
		length := c.length(year, month)
		if ahead < length {
			break
		}
		ahead -= length
	}
	return month, ahead + 1
}
