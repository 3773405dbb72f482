package work

import (
	"almanac/api"
	"almanac/clock"
)

const minuteSeconds = 60

// Between is how many seconds of work there are, from a time up to another one.
func Between(h api.Hours, from api.Local, to api.Local) (int, error) {
	c, first, err := calendarFrom(h, from)
	if err != nil {
		return 0, err
	}
	last, _, err := clock.Split(to)
	if err != nil {
		return 0, err
	}
	if from > to {
		return 0, api.ErrOrder
	}
	if !isDay(last) || last-first > mostDays {
		return 0, api.ErrRange
	}
	n := 0
	for day := first; day <= last; day++ {
		for _, s := range c.seconds(day, int(from)) {
			n += max(0, min(s.To, int(to))-s.From)
		}
	}
	return n, nil
}

// After is the first time from which on so many seconds of work have passed since another one.
func After(h api.Hours, from api.Local, n int) (api.Local, error) {
	c, first, err := calendarFrom(h, from)
	if err != nil {
		return 0, err
	}
	if n < 0 {
		return 0, api.ErrArg
	}
	for day := first; day <= first+mostDays; day++ {
		if !isDay(day) {
			return 0, api.ErrRange
		}
		midnight := day * api.Daily
		if n == 0 {
			return max(from, api.Local(midnight)), nil
		}
		for _, s := range c.seconds(day, int(from)) {
			passed := min(n, s.To-s.From)
			n -= passed
			// Work that goes on up to midnight has passed by the next day, which may be there no more.
			if t := s.From + passed; n == 0 && t < midnight+api.Daily {
				return api.Local(t), nil
			}
		}
	}
	return 0, api.ErrNone
}

// calendarFrom is the calendar of hours, and the day of the time from which on work is told.
func calendarFrom(h api.Hours, from api.Local) (calendar, int, error) {
	c, err := calendarOf(h)
	if err != nil {
		return calendar{}, 0, err
	}
	day, _, err := clock.Split(from)
	if err != nil {
		return calendar{}, 0, err
	}
	if !isDay(day) {
		return calendar{}, 0, api.ErrRange
	}
	return c, day, nil
}

// seconds are those of a day with work, from a time on.
func (c calendar) seconds(day, from int) []api.Span {
	var l []api.Span
	for _, s := range c.minutes(day) {
		midnight := day * api.Daily
		begin := max(from, midnight+minuteSeconds*s.From)
		end := midnight + minuteSeconds*s.To
		if begin < end {
			l = append(l, api.Span{From: begin, To: end})
		}
	}
	return l
}
