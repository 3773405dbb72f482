package rule

import (
	"slices"
	"strconv"
	"strings"

	"almanac/api"
	"almanac/clock"
)

// What is called by a number from 1 on is called so in texts, in its order.
const (
	calendars   = "GREGORIAN JULIAN COPTIC ETHIOPIC ISLAMIC PERSIAN HEBREW SAKA FRENCH EGYPTIAN"
	frequencies = "HOURLY DAILY WEEKLY MONTHLY YEARLY"
	weekdays    = "MO TU WE TH FR SA SU"
)

// name is what a number is called.
func name(names string, n int) string { return strings.Fields(names)[n-1] }

// named is the number that is called so: 0, if none is.
func named(names, name string) int { return slices.Index(strings.Fields(names), name) + 1 }

// listsOf tells where the numbers of a part stand in a rule, by the part's name.
func listsOf(r *api.Rule) map[string]*[]int {
	return map[string]*[]int{
		"BYMONTH":    &r.Months,
		"BYWEEKNO":   &r.Weeks,
		"BYYEARDAY":  &r.YearDays,
		"BYMONTHDAY": &r.MonthDays,
		"BYHOUR":     &r.Hours,
		"BYMINUTE":   &r.Minutes,
		"BYSECOND":   &r.Seconds,
		"BYSETPOS":   &r.Places,
	}
}

// Text writes a rule.
func Text(r api.Rule) (string, error) {
	if err := Check(r); err != nil {
		return "", err
	}
	var parts []string
	tell := func(says bool, part, value string) {
		if says {
			parts = append(parts, part+"="+value)
		}
	}
	lists := listsOf(&r)
	tellLists := func(names ...string) {
		for _, n := range names {
			tell(len(*lists[n]) > 0, n, numbersText(*lists[n]))
		}
	}
	until, err := untilText(r.Until)
	if err != nil {
		return "", err
	}
	tell(r.Cal != api.Gregorian, "RSCALE", name(calendars, int(r.Cal)))
	tell(true, "FREQ", name(frequencies, r.Freq))
	tell(r.Every != 1, "INTERVAL", strconv.Itoa(r.Every))
	tell(r.Count != 0, "COUNT", strconv.Itoa(r.Count))
	tell(r.Ends, "UNTIL", until)
	tellLists("BYMONTH", "BYWEEKNO", "BYYEARDAY", "BYMONTHDAY")
	tell(len(r.Days) > 0, "BYDAY", daysText(r.Days))
	tellLists("BYHOUR", "BYMINUTE", "BYSECOND", "BYSETPOS")
	tell(r.First != 1, "WKST", name(weekdays, r.First))
	return strings.Join(parts, ";"), nil
}

// untilText writes a time without - and : between.
func untilText(t api.Local) (string, error) {
	text, err := clock.Text(t)
	if err != nil {
		return "", err
	}
	// The first byte may be the year's sign, which stays.
	return text[:1] + strings.NewReplacer("-", "", ":", "").Replace(text[1:]), nil
}

// numbersText writes a list of numbers.
func numbersText(list []int) string {
	var l []string
	for _, n := range list {
		l = append(l, strconv.Itoa(n))
	}
	return strings.Join(l, ",")
}

// daysText writes weekdays, with their numbers ahead.
func daysText(list []api.Nth) string {
	var l []string
	for _, d := range list {
		text := name(weekdays, d.Day)
		if d.N != 0 {
			text = strconv.Itoa(d.N) + text
		}
		l = append(l, text)
	}
	return strings.Join(l, ",")
}
