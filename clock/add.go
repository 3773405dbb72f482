package clock

import (
	"almanac/api"
	"almanac/days"
)

// Add is the time that comes a period behind another one: years and months first (a day that its month has not becomes the month's last), then weeks and days, then seconds.
func Add(t api.Local, p api.Period) (api.Local, error) {
	if err := checkPeriod(p); err != nil {
		return 0, err
	}
	day, second, err := Split(t)
	if err != nil {
		return 0, err
	}
	day, err = addMonths(day, yearly*p.Years+p.Months)
	if err != nil {
		return 0, err
	}
	midnight, err := behindMidnight(day+weekly*p.Weeks+p.Days, 0)
	if err != nil {
		return 0, err
	}
	return ifThere(midnight + api.Local(second+p.Seconds))
}

// Since is the period from a time up to a later one: as many years as there are, then months, days, seconds: Add tells the later one again.
func Since(a api.Local, b api.Local) (api.Period, error) {
	from, _, err := Tell(a)
	if err != nil {
		return api.Period{}, err
	}
	to, _, err := Tell(b)
	if err != nil {
		return api.Period{}, err
	}
	if a > b {
		return api.Period{}, api.ErrOrder
	}
	months := monthOf(to) - monthOf(from)
	behind, err := Add(a, api.Period{Months: months})
	if err != nil || behind > b {
		// One month less ends in a month ahead of b's: it is there, and not later.
		months--
		behind, err = Add(a, api.Period{Months: months})
	}
	if err != nil {
		return api.Period{}, err
	}
	rest := int(b - behind)
	return api.Period{Years: months / yearly, Months: months % yearly, Days: rest / api.Daily, Seconds: rest % api.Daily}, nil
}

// monthOf counts the months of all years.
func monthOf(d api.Date) int { return yearly*d.Year + d.Month - 1 }

// addMonths is the same day of the month, so many months behind a day, or the last day of a month that is too short.
func addMonths(day, months int) (int, error) {
	date, err := days.Of(api.Gregorian, day)
	if err != nil {
		return 0, err
	}
	month := monthOf(date) + months
	date.Year, date.Month = floor(month, yearly), mod(month, yearly)+1
	length, err := days.Length(api.Gregorian, date.Year, date.Month)
	if err != nil {
		return 0, err
	}
	date.Day = min(date.Day, length)
	return days.Day(date)
}

// parts are those of a period, the greatest first.
func parts(p api.Period) [5]int {
	return [...]int{p.Years, p.Months, p.Weeks, p.Days, p.Seconds}
}

// checkPeriod tells whether a period's parts are such as there may be.
func checkPeriod(p api.Period) error {
	const most = 1_000_000_000_000
	l := parts(p)
	for i := range len(l) {
		if l[i] < -most || l[i] > most {
			return api.ErrRange
		}
	}
	return nil
}

// turned is a period to the other side. Its parts are not beyond what checkPeriod asks for.
func turned(p api.Period) api.Period {
	return api.Period{Years: -p.Years, Months: -p.Months, Weeks: -p.Weeks, Days: -p.Days, Seconds: -p.Seconds}
}
