package clock

import (
	"almanac/api"
	"almanac/days"
)

// Parse reads a stamp, all of a text.
func Parse(text string) (api.Stamp, error) {
	r := reader{text: text}
	s, err := r.stamp()
	if err != nil {
		return api.Stamp{}, err
	}
	if err := r.end(); err != nil {
		return api.Stamp{}, err
	}
	return s, nil
}

// stamp reads a day, and a clock and zone behind it, if it goes on with them.
func (r *reader) stamp() (s api.Stamp, err error) {
	day, wide, err := r.day()
	if err != nil {
		return s, err
	}
	second := 0
	withClock := r.skip('T')
	if withClock {
		if second, err = r.clock(wide); err != nil {
			return s, err
		}
	}
	// The second may be the next day's midnight, and that day may be there no more.
	if s.Local, err = behindMidnight(day, second); err != nil || !withClock {
		return s, err
	}
	s.Zone, s.Offset, err = r.zone(wide)
	return s, err
}

// day reads a day, and whether it is wide: with a - behind its year.
func (r *reader) day() (day int, wide bool, err error) {
	year, err := r.year()
	if err != nil {
		return 0, false, err
	}
	wide = r.skip('-')
	switch {
	case r.skip('W'):
		day, err = r.dayOfWeek(year, wide)
	case r.run() == 3:
		day, err = r.dayOfYear(year)
	default:
		day, err = r.dayOfMonth(year, wide)
	}
	return day, wide, err
}

// year reads a year: four digits, or a sign and five.
func (r *reader) year() (int, error) {
	if r.skip('-') {
		year, err := r.number(5)
		return -year, err
	}
	if r.skip('+') {
		return r.number(5)
	}
	return r.number(4)
}

// dayOfMonth reads a month and day.
func (r *reader) dayOfMonth(year int, wide bool) (int, error) {
	month, err := r.number(2)
	if err != nil {
		return 0, err
	}
	if err := r.wantIf(wide, '-'); err != nil {
		return 0, err
	}
	day, err := r.number(2)
	if err != nil {
		return 0, err
	}
	return days.Day(api.Date{Cal: api.Gregorian, Year: year, Month: month, Day: day})
}

// dayOfYear reads a day of the year.
func (r *reader) dayOfYear(year int) (int, error) {
	n, err := r.number(3)
	if err != nil {
		return 0, err
	}
	first, err := days.Day(api.Date{Cal: api.Gregorian, Year: year, Month: 1, Day: 1})
	if err != nil {
		return 0, err
	}
	day := first + n - 1
	// A number that the year has not ends in another year, or behind all days.
	if date, err := days.Of(api.Gregorian, day); err != nil || date.Year != year {
		return 0, api.ErrDate
	}
	return day, nil
}

// dayOfWeek reads a week and weekday, from behind the W on.
func (r *reader) dayOfWeek(year int, wide bool) (int, error) {
	week, err := r.number(2)
	if err != nil {
		return 0, err
	}
	if err := r.wantIf(wide, '-'); err != nil {
		return 0, err
	}
	weekday, err := r.number(1)
	if err != nil {
		return 0, err
	}
	return days.OfWeek(year, week, weekday)
}

// clock reads a clock: its second of the day, of which 24:00:00 has one more than there are.
func (r *reader) clock(wide bool) (int, error) {
	var c api.Clock
	var err error
	if c.Hour, c.Minute, err = r.hourAndMinute(wide); err != nil {
		return 0, err
	}
	if r.hasSecond(wide) {
		if c.Second, err = r.number(2); err != nil {
			return 0, err
		}
	}
	if c == (api.Clock{Hour: 24}) {
		return api.Daily, nil
	}
	if c.Hour > 23 || c.Minute > 59 || c.Second > 59 {
		return 0, api.ErrDate
	}
	return seconds(c), nil
}

// hasSecond says whether a clock goes on with a second, and goes past what stands ahead of that.
func (r *reader) hasSecond(wide bool) bool {
	if wide {
		return r.skip(':')
	}
	return r.run() > 0
}

// hourAndMinute reads two digits and two more, with : between if they are wide.
func (r *reader) hourAndMinute(wide bool) (hour, minute int, err error) {
	if hour, err = r.number(2); err != nil {
		return 0, 0, err
	}
	if err = r.wantIf(wide, ':'); err != nil {
		return 0, 0, err
	}
	if minute, err = r.number(2); err != nil {
		return 0, 0, err
	}
	return hour, minute, nil
}

// zone reads a zone, or none: what it is, and the offset that it tells.
func (r *reader) zone(wide bool) (kind, offset int, err error) {
	if r.skip('Z') {
		return api.Zulu, 0, nil
	}
	sign := 0
	switch {
	case r.skip('+'):
		sign = 1
	case r.skip('-'):
		sign = -1
	default:
		return api.NoZone, 0, nil
	}
	hour, minute, err := r.hourAndMinute(wide)
	if err != nil {
		return 0, 0, err
	}
	if hour > 23 || minute > 59 {
		return 0, 0, api.ErrDate
	}
	return api.Offset, sign * seconds(api.Clock{Hour: hour, Minute: minute}), nil
}
