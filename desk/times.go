package desk

import (
	"strconv"
	"strings"

	"almanac/api"
	"almanac/clock"
)

// bare is an error without its place.
func bare(err error) error {
	if err == nil {
		return nil
	}
	return api.Tell(err)
}

// timeText writes a time without - and : between.
func timeText(t api.Local) (string, error) {
	s, err := clock.Text(t)
	if err != nil {
		return "", err
	}
	// The first byte may be the year's sign, which stays.
	rest := strings.ReplaceAll(s[1:], "-", "")
	return s[:1] + strings.ReplaceAll(rest, ":", ""), nil
}

// readTime reads a time that is written so.
func readTime(s string) (api.Local, error) {
	stamp, err := clock.Parse(s)
	if err != nil {
		return 0, bare(err)
	}
	// A stamp may be written in many ways: only the one in which it would be written here is asked for.
	same, err := timeText(stamp.Local)
	if err != nil {
		return 0, err
	}
	if same != s {
		return 0, api.ErrForm
	}
	return stamp.Local, nil
}

// timesText writes times, with commas between.
func timesText(times []api.Local) (string, error) {
	var l []string
	for _, t := range times {
		s, err := timeText(t)
		if err != nil {
			return "", err
		}
		l = append(l, s)
	}
	return strings.Join(l, ","), nil
}

// readTimes reads what timesText writes.
func readTimes(s string) ([]api.Local, error) {
	var times []api.Local
	for _, one := range strings.Split(s, ",") {
		t, err := readTime(one)
		if err != nil {
			return nil, err
		}
		times = append(times, t)
	}
	return times, nil
}

// readSeconds reads a period that has neither years nor months.
func readSeconds(s string) (int, error) {
	p, err := clock.ParsePeriod(s)
	if err != nil {
		return 0, bare(err)
	}
	return secondsOf(p)
}

// secondsOf is how long a period is, which years and months do not tell.
func secondsOf(p api.Period) (int, error) {
	if p.Years != 0 || p.Months != 0 {
		return 0, api.ErrForm
	}
	return (p.Weeks*7+p.Days)*api.Daily + p.Seconds, nil
}

// readNumber reads a number without a nought ahead.
func readNumber(s string) (int, error) {
	digits := strings.TrimPrefix(s, "-")
	isForm := digits != "" && strings.Trim(digits, "0123456789") == ""
	if !isForm || digits[0] == '0' && s != "0" {
		return 0, api.ErrForm
	}
	// Of a number that is too great for an int the greatest one is told, which is above all that may be, too.
	n, _ := strconv.Atoi(s)
	return n, nil
}
