package rule

import (
	"slices"

	"almanac/api"
	"almanac/days"
)

// test says whether a day fits by one of the things that a rule tells.
type test func(d day) bool

// testsOf are all tests that the days of a rule must hold; start is the day with which it begins.
func testsOf(r api.Rule, start day) []test {
	var l []test
	when := func(asked bool, t test) {
		if asked {
			l = append(l, t)
		}
	}
	when(len(r.Months) > 0, func(d day) bool { return slices.Contains(r.Months, d.month) })
	when(len(r.Weeks) > 0, func(d day) bool { return week(d, r.First).among(r.Weeks) })
	when(len(r.YearDays) > 0, func(d day) bool { return d.inYear.among(r.YearDays) })
	when(len(r.MonthDays) > 0, func(d day) bool { return d.inMonth.among(r.MonthDays) })
	when(len(r.Days) > 0, func(d day) bool { return onWeekday(r, d) })
	if len(r.YearDays)+len(r.MonthDays)+len(r.Days) == 0 {
		when(true, asStart(r, start))
	}
	return l
}

// asStart is the test of a rule none of whose lists tells days: what they have in common with the start.
func asStart(r api.Rule, start day) test {
	ofMonth := func(d day) bool { return d.inMonth.n == start.inMonth.n }
	switch {
	case len(r.Weeks) > 0, r.Freq == api.Weekly:
		return func(d day) bool { return d.weekday() == start.weekday() }
	case r.Freq == api.Yearly && len(r.Months) == 0:
		return func(d day) bool { return d.month == start.month && ofMonth(d) }
	case r.Freq == api.Yearly, r.Freq == api.Monthly:
		return ofMonth
	}
	return func(day) bool { return true }
}

// onWeekday says whether one of the rule's Days tells a day.
func onWeekday(r api.Rule, d day) bool {
	among := d.inMonth
	if r.Freq == api.Yearly && len(r.Months) == 0 {
		among = d.inYear
	}
	nth, weekday := among.ofWeekday(), d.weekday()
	return slices.ContainsFunc(r.Days, func(x api.Nth) bool {
		return x.Day == weekday && (x.N == 0 || x.N == nth.n || x.N == nth.behind())
	})
}

// week is which of its year's weeks has a day (of the Gregorian calendar), where weeks begin with a weekday.
func week(d day, first int) place {
	// A week is of the year that has its fourth day: its place is that day's among those of its weekday.
	fourth := d.inYear
	fourth.n += 3 - mod(d.weekday()-first, weekDays)
	switch {
	case fourth.n < 1:
		fourth.of = yearLong(d.year - 1)
		fourth.n += fourth.of
	case fourth.n > fourth.of:
		fourth.n -= fourth.of
		fourth.of = yearLong(d.year + 1)
	}
	return fourth.ofWeekday()
}

// yearLong is how many days a year of the Gregorian calendar has.
func yearLong(year int) int {
	if leap, err := days.Leap(api.Gregorian, year); err == nil && leap {
		return 366
	}
	return 365
}
