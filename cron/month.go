package cron

import (
	"iter"
	"slices"

	"almanac/api"
	"almanac/days"
)

const (
	saturday = 6
	sunday   = 7
	weekDays = 7
)

// month is a month of the Gregorian calendar. Its days are counted from 1 on.
type month struct {
	number int // from 1 to 12
	ahead  int // the day ahead of its first one
	long   int // how many days it has
}

// monthOf is the month that has a day, one of those that are there.
func monthOf(day int) month {
	date, _ := days.Of(api.Gregorian, day)
	long, _ := days.Length(api.Gregorian, date.Year, date.Month)
	return month{number: date.Month, ahead: day - date.Day, long: long}
}

// fitting goes over the days that fit, of months that are told: from a first one on, up to a last one, which is of them.
func fitting(c api.Cron, first, last int) iter.Seq[int] {
	return func(yield func(int) bool) {
		for day := first; day <= last; {
			m := monthOf(day)
			told := slices.Contains(c.Months, m.number)
			for n := day - m.ahead; told && n <= min(m.long, last-m.ahead); n++ {
				if m.fits(c, n) && !yield(m.ahead+n) {
					return
				}
			}
			day = m.ahead + m.long + 1
		}
	}
}

// fits says whether one of the month's days does.
func (m month) fits(c api.Cron, n int) bool {
	switch {
	case c.Any:
		return c.AnyWeek || m.fitsByWeek(c, n)
	case c.AnyWeek:
		return m.fitsByMonth(c, n)
	}
	return m.fitsByMonth(c, n) || m.fitsByWeek(c, n)
}

// fitsByMonth says whether a day fits by its place in the month.
func (m month) fitsByMonth(c api.Cron, n int) bool {
	isNearest := func(to int) bool { return to <= m.long && m.nearest(to) == n }
	return slices.Contains(c.Days, n) || c.Last && n == m.long || slices.ContainsFunc(c.Near, isNearest)
}

// nearest is the day from Monday to Friday, in this month, that is nearest to one of its days.
func (m month) nearest(n int) int {
	switch m.weekday(n) {
	case saturday:
		if n == 1 {
			return n + 2
		}
		return n - 1
	case sunday:
		if n == m.long {
			return n - 2
		}
		return n + 1
	}
	return n
}

// fitsByWeek says whether a day fits by its weekday.
func (m month) fitsByWeek(c api.Cron, n int) bool {
	weekday := m.weekday(n)
	isLast := n+weekDays > m.long
	nth := api.Nth{N: (n-1)/weekDays + 1, Day: weekday}
	return slices.Contains(c.Weekdays, weekday) || isLast && slices.Contains(c.LastOf, weekday) || slices.Contains(c.Nth, nth)
}

func (m month) weekday(n int) int { return days.Weekday(m.ahead + n) }
