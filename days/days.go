// Package days: days, and what peoples call them.
package days

import (
	"almanac/api"
)

// Leap says whether a year is a leap year.
func Leap(c api.Cal, year int) (bool, error) {
	cal, err := calendarWithYear(c, year)
	if err != nil {
		return false, err
	}
	return cal.leap(year), nil
}

// Months is how many months a year has.
func Months(c api.Cal, year int) (int, error) {
	cal, err := calendarWithYear(c, year)
	if err != nil {
		return 0, err
	}
	return cal.months(year), nil
}

// Length is how many days a month has.
func Length(c api.Cal, year int, month int) (int, error) {
	cal, err := calendarWithYear(c, year)
	if err != nil {
		return 0, err
	}
	return cal.lengthOf(year, month)
}

// Day is the number of a date.
func Day(d api.Date) (int, error) {
	cal, err := calendarWithYear(d.Cal, d.Year)
	if err != nil {
		return 0, err
	}
	length, err := cal.lengthOf(d.Year, d.Month)
	if err != nil {
		return 0, err
	}
	if d.Day < 1 || d.Day > length {
		return 0, api.ErrDate
	}
	return ifThere(cal.day(d.Year, d.Month, d.Day))
}

// Of is the date of a day.
func Of(c api.Cal, day int) (api.Date, error) {
	cal, err := calendarOf(c)
	if err != nil {
		return api.Date{}, err
	}
	if err := checkDay(day); err != nil {
		return api.Date{}, err
	}
	year := cal.yearOf(day)
	month, dayOfMonth := cal.monthOf(year, day-cal.start(year))
	return api.Date{Cal: c, Year: year, Month: month, Day: dayOfMonth}, nil
}

// calendarWithYear is how a calendar goes, if a year is there of which it is asked.
func calendarWithYear(c api.Cal, year int) (calendar, error) {
	cal, err := calendarOf(c)
	if err != nil {
		return calendar{}, err
	}
	if err := checkYear(year); err != nil {
		return calendar{}, err
	}
	return cal, nil
}

// checkDay tells whether a day is there.
func checkDay(day int) error {
	if day < -api.MaxDay || day > api.MaxDay {
		return api.ErrRange
	}
	return nil
}

// checkYear tells whether a year is there.
func checkYear(year int) error {
	if year < -api.MaxYear || year > api.MaxYear {
		return api.ErrRange
	}
	return nil
}

// ifThere is the day itself, if it is there.
func ifThere(day int) (int, error) {
	if err := checkDay(day); err != nil {
		return 0, err
	}
	return day, nil
}

// floor is n through by, rounded down (Go's own division rounds towards 0); by is above 0.
func floor(n, by int) int {
	q := n / by
	if n%by < 0 {
		q--
	}
	return q
}

// mod is what floor leaves: from 0 to by - 1.
func mod(n, by int) int {
	r := n % by
	if r < 0 {
		r += by
	}
	return r
}
