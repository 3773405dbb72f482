package cron

import (
	"strconv"
	"strings"

	"almanac/api"
)

// Check says whether a Cron is one that Parse may give.
func Check(c api.Cron) error {
	lists := minutes.rise(c.Minutes) && hours.rise(c.Hours) && months.rise(c.Months) &&
		monthDays.rise(c.Days) && monthDays.rise(c.Near) &&
		weekdays.rise(c.Weekdays) && weekdays.rise(c.LastOf) && nthRise(c.Nth)
	// A word tells something; * alone tells that any day will do, and nothing else.
	words := len(c.Minutes) > 0 && len(c.Hours) > 0 && len(c.Months) > 0 &&
		c.Any == (len(c.Days)+len(c.Near) == 0 && !c.Last) &&
		c.AnyWeek == (len(c.Weekdays)+len(c.LastOf)+len(c.Nth) == 0)
	if !lists || !words {
		return api.ErrArg
	}
	return nil
}

// nthRise says whether weekdays of a month may all be, and rise.
func nthRise(l []api.Nth) bool {
	var ahead api.Nth
	for _, n := range l {
		rises := n.Day > ahead.Day || n.Day == ahead.Day && n.N > ahead.N
		if !rises || !weekdays.has(n.Day) || !places.has(n.N) {
			return false
		}
		ahead = n
	}
	return true
}

// Text writes five words.
func Text(c api.Cron) (string, error) {
	if err := Check(c); err != nil {
		return "", err
	}
	words := []string{
		minutes.word(c.Minutes),
		hours.word(c.Hours),
		daysWord(c),
		months.word(c.Months),
		weekdaysWord(c),
	}
	return strings.Join(words, " "), nil
}

// word writes numbers that rise.
func (k kind) word(l []int) string {
	if k.all(l) {
		return "*"
	}
	return strings.Join(items(l, ""), ",")
}

// items writes numbers, each with something behind it.
func items(l []int, behind string) []string {
	var texts []string
	for _, n := range l {
		texts = append(texts, strconv.Itoa(n)+behind)
	}
	return texts
}

// daysWord writes the days of a month.
func daysWord(c api.Cron) string {
	if c.Any {
		return "*"
	}
	l := append(items(c.Days, ""), items(c.Near, "W")...)
	if c.Last {
		l = append(l, "L")
	}
	return strings.Join(l, ",")
}

// weekdaysWord writes the days of a week.
func weekdaysWord(c api.Cron) string {
	if c.AnyWeek {
		return "*"
	}
	l := append(items(c.Weekdays, ""), items(c.LastOf, "L")...)
	for _, n := range c.Nth {
		l = append(l, strconv.Itoa(n.Day)+"#"+strconv.Itoa(n.N))
	}
	return strings.Join(l, ",")
}
