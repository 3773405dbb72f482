package days

import (
	"almanac/api"
)

// Weekday is 1 (Monday) to 7.
func Weekday(day int) int {
	// Day 0 is a Thursday. The day is brought below 7 ahead of the sum, which may not be there for the greatest numbers.
	return mod(mod(day, 7)+3, 7) + 1
}

// Week is the year, week and weekday of a day, as they are counted by weeks.
func Week(day int) (year, week, weekday int, err error) {
	if err := checkDay(day); err != nil {
		return 0, 0, 0, err
	}
	weekday = Weekday(day)
	// A week is of the year that has its Thursday: the 4 January is in the week of the year's first Thursday.
	thursday := day - weekday + 4
	year = gregorian().yearOf(thursday)
	return year, floor(day-firstMonday(year), 7) + 1, weekday, nil
}

// Weeks is how many weeks a year has.
func Weeks(year int) (int, error) {
	if err := checkYear(year); err != nil {
		return 0, err
	}
	return floor(firstMonday(year+1)-firstMonday(year), 7), nil
}

// OfWeek is the day of a weekday of a week.
func OfWeek(year int, week int, weekday int) (int, error) {
	weeks, err := Weeks(year)
	if err != nil {
		return 0, err
	}
	if week < 1 || week > weeks || weekday < 1 || weekday > 7 {
		return 0, api.ErrDate
	}
	return ifThere(firstMonday(year) + 7*(week-1) + weekday - 1)
}

// firstMonday is the day with which the weeks of a year begin.
func firstMonday(year int) int {
	january4 := gregorian().start(year) + 3
	return january4 - Weekday(january4) + 1
}
