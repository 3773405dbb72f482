package rule

import (
	"slices"

	"almanac/api"
	"almanac/clock"
	"almanac/days"
)

// Check says whether a rule may be.
func Check(r api.Rule) error {
	if _, err := days.Months(r.Cal, 1); err != nil {
		return err
	}
	if !within(r.Freq, api.Hourly, api.Yearly) || !within(r.Every, 1, api.MaxEvery) || !within(r.Count, 0, api.MaxCount) || !within(r.First, 1, 7) {
		return api.ErrArg
	}
	if !r.Ends && r.Until != 0 {
		return api.ErrArg
	}
	if _, _, err := clock.Split(r.Until); err != nil {
		return err
	}
	if err := checkLists(r); err != nil {
		return err
	}
	return checkState(r)
}

// checkLists tells whether the lists are short enough, and their numbers such as may be.
func checkLists(r api.Rule) error {
	lists := bounded(r)
	for _, l := range lists {
		if len(l.numbers) > api.MaxList {
			return api.ErrLimit
		}
	}
	if len(r.Days) > api.MaxList {
		return api.ErrLimit
	}
	for _, l := range lists {
		if slices.ContainsFunc(l.numbers, l.leavesOut) {
			return api.ErrArg
		}
	}
	if daily(r) > api.MaxDaily {
		return api.ErrLimit
	}
	for _, d := range r.Days {
		if !within(d.Day, 1, 7) || !within(d.N, -53, 53) {
			return api.ErrArg
		}
	}
	return nil
}

// checkState tells whether what stands in the lists goes with what the rule is.
func checkState(r api.Rule) error {
	yearly := r.Freq == api.Yearly
	counted := slices.ContainsFunc(r.Days, func(d api.Nth) bool { return d.N != 0 })
	switch {
	case len(r.Weeks) > 0 && (!yearly || r.Cal != api.Gregorian),
		len(r.YearDays) > 0 && !yearly,
		len(r.MonthDays) > 0 && r.Freq == api.Weekly,
		counted && (!yearly && r.Freq != api.Monthly || len(r.Weeks) > 0):
		return api.ErrState
	}
	return nil
}

// bounds are a list, and the numbers that may stand in it.
type bounds struct {
	numbers     []int
	least, most int
}

// leavesOut says whether a number may not be: 0 is none where there are some to both sides.
func (b bounds) leavesOut(n int) bool {
	return !within(n, b.least, b.most) || n == 0 && b.least < 0
}

// bounded are the lists of a rule, with their bounds.
func bounded(r api.Rule) []bounds {
	return []bounds{
		{r.Months, 1, 13},
		{r.Weeks, -53, 53},
		{r.YearDays, -385, 385},
		{r.MonthDays, -31, 31},
		{r.Hours, 0, 23},
		{r.Minutes, 0, 59},
		{r.Seconds, 0, 59},
		{r.Places, -400, 400},
	}
}

// daily is how many times a day there might be.
func daily(r api.Rule) int {
	hours := max(1, len(r.Hours))
	if r.Freq == api.Hourly {
		hours = hoursOfDay
	}
	return hours * max(1, len(r.Minutes)) * max(1, len(r.Seconds))
}

func within(n, least, most int) bool { return n >= least && n <= most }
