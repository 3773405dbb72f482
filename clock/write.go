package clock

import (
	"strconv"
	"strings"

	"almanac/api"
)

// Text writes a time: a year of four digits, or with its sign and five.
func Text(t api.Local) (string, error) {
	d, c, err := Tell(t)
	if err != nil {
		return "", err
	}
	date := yearText(d.Year) + "-" + digits(d.Month, 2) + "-" + digits(d.Day, 2)
	return date + "T" + digits(c.Hour, 2) + ":" + digits(c.Minute, 2) + ":" + digits(c.Second, 2), nil
}

// OffsetText writes an offset.
func OffsetText(n int) (string, error) {
	if n <= -api.Daily || n >= api.Daily || n%minutely != 0 {
		return "", api.ErrRange
	}
	sign := "+"
	if n < 0 {
		sign, n = "-", -n
	}
	c := clockOf(n)
	return sign + digits(c.Hour, 2) + ":" + digits(c.Minute, 2), nil
}

// StampText writes a stamp.
func StampText(s api.Stamp) (string, error) {
	text, err := Text(s.Local)
	if err != nil {
		return "", err
	}
	if s.Zone != api.Offset && s.Offset != 0 {
		return "", api.ErrArg
	}
	zone := ""
	switch s.Zone {
	case api.NoZone:
	case api.Zulu:
		zone = "Z"
	case api.Offset:
		zone, err = OffsetText(s.Offset)
	default:
		err = api.ErrArg
	}
	if err != nil {
		return "", err
	}
	return text + zone, nil
}

// PeriodText writes a period, of which no two parts have unlike signs.
func PeriodText(p api.Period) (string, error) {
	if err := checkPeriod(p); err != nil {
		return "", err
	}
	if p == (api.Period{}) {
		return "PT0S", nil
	}
	l := parts(p)
	ahead, behind := false, false
	for i := range len(l) {
		ahead = ahead || l[i] < 0
		behind = behind || l[i] > 0
	}
	if ahead && behind {
		return "", api.ErrArg
	}
	if ahead {
		return "-" + partsText(turned(p)), nil
	}
	return partsText(p), nil
}

// partsText writes a period none of whose parts is below 0, and not all are 0.
func partsText(p api.Period) string {
	text := "P" + partText(p.Years, "Y") + partText(p.Months, "M") + partText(p.Weeks, "W") + partText(p.Days, "D")
	if p.Seconds == 0 {
		return text
	}
	c := clockOf(p.Seconds)
	return text + "T" + partText(c.Hour, "H") + partText(c.Minute, "M") + partText(c.Second, "S")
}

// partText writes a part with its letter: nothing, if it is 0.
func partText(n int, letter string) string {
	if n == 0 {
		return ""
	}
	return strconv.Itoa(n) + letter
}

func yearText(year int) string {
	switch {
	case year < 0:
		return "-" + digits(-year, 5)
	case year > 9999:
		return "+" + digits(year, 5)
	}
	return digits(year, 4)
}

// digits writes a number that is not below 0 with at least so many digits.
func digits(n, least int) string {
	text := strconv.Itoa(n)
	return strings.Repeat("0", max(0, least-len(text))) + text
}
