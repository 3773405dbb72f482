package work_test

import (
	"slices"
	"time"

	"almanac/api"
	"almanac/days"
	"almanac/work"
)

// The model goes from day to day, and says of each what chapter 8 says.

// modelWouldBe says whether a holiday that is none of the Easters would be on a day.
func modelWouldBe(x api.Holiday, day int) bool {
	if x.Kind == api.OnDate {
		d, err := days.Of(x.Cal, day)
		return err == nil && d.Month == x.Month && d.Day == x.Day
	}
	d := date(day)
	if int(d.Month()) != x.Month || days.Weekday(day) != x.Weekday {
		return false
	}
	ahead, behind := 0, 0
	for y := d; y.Month() == d.Month(); y = y.AddDate(0, 0, -7) {
		ahead++
	}
	for y := d; y.Month() == d.Month(); y = y.AddDate(0, 0, 7) {
		behind--
	}
	return x.N == ahead || x.N == behind
}

// modelGoes is where a holiday goes that would be on a day.
func modelGoes(x api.Holiday, day int) int {
	weekday := date(day).Weekday()
	if x.Moves == api.Nearest && weekday == time.Saturday {
		return day - 1
	}
	if x.Moves != api.Stay && (weekday == time.Saturday || weekday == time.Sunday) {
		for date(day).Weekday() != time.Monday {
			day++
		}
	}
	return day
}

// modelHolidays are those of a year.
func modelHolidays(h api.Hours, year int) []int {
	first, end := dayOfDate(year, 1, 1), dayOfDate(year+1, 1, 1)
	var l []int
	for _, x := range h.Holidays {
		if year < x.From || year > x.To {
			continue
		}
		if x.Kind == api.OnWest || x.Kind == api.OnEast {
			easter, err := days.Easter(year, x.Kind == api.OnEast)
			if err != nil {
				panic(err)
			}
			l = append(l, modelGoes(x, easter+x.Offset))
			continue
		}
		for day := first; day < end; day++ {
			if modelWouldBe(x, day) {
				l = append(l, modelGoes(x, day))
			}
		}
	}
	slices.Sort(l)
	return slices.Compact(l)
}

// model tells which days have work, and how much of it, by all holidays of the years about one.
type model struct {
	hours api.Hours
	off   map[int]bool
}

// modelOf is the model of the days that can be gone through from one of a year on.
func modelOf(h api.Hours, year int) model {
	m := model{h, map[int]bool{}}
	for y := max(year-14, 1); y <= min(year+14, 9999); y++ {
		l, err := work.Holidays(h, y)
		if err != nil {
			panic(err)
		}
		for _, day := range l {
			m.off[day] = true
		}
	}
	return m
}

func (m model) spans(day int) []api.Span {
	if m.off[day] {
		return nil
	}
	return m.hours.Week[(int(date(day).Weekday())+6)%7]
}

func (m model) works(day int) bool { return len(m.spans(day)) > 0 }

// add is what Add should answer for a day of the years that there are.
func (m model) add(day, n int) (int, error) {
	gone := 0
	for x := day; ; {
		if n > 0 || n == 0 && gone > 0 {
			x++
		} else if n < 0 {
			x--
		}
		if gone++; gone > mostDays {
			return 0, api.ErrNone
		}
		if x < firstDay || x > lastDay {
			return 0, api.ErrRange
		}
		if !m.works(x) {
			continue
		}
		switch {
		case n == 0, n == 1, n == -1:
			return x, nil
		case n > 0:
			n--
		default:
			n++
		}
	}
}

// isWork says whether a second is one of work.
func (m model) isWork(t int) bool {
	day, second := t/api.Daily, t%api.Daily
	if second < 0 {
		day, second = day-1, second+api.Daily
	}
	return slices.ContainsFunc(m.spans(day), func(s api.Span) bool { return second/60 >= s.From && second/60 < s.To })
}

// between is how many seconds of work there are: second by second up to whole minutes, then minute by minute.
func (m model) between(from, to int) int {
	n := 0
	for t := from; t < to; {
		step := 1
		if t%60 == 0 && t+60 <= to {
			step = 60
		}
		if m.isWork(t) {
			n += step
		}
		t += step
	}
	return n
}

// after is what After should answer for a time of the years that there are.
func (m model) after(from, n int) (int, error) {
	first := dayOf(from)
	for t := from; ; {
		switch day := dayOf(t); {
		case day > first+mostDays:
			return 0, api.ErrNone
		case day > lastDay:
			return 0, api.ErrRange
		case n == 0:
			return t, nil
		}
		step := 1
		if t%60 == 0 && (n >= 60 || !m.isWork(t)) {
			step = 60
		}
		if m.isWork(t) {
			n -= step
		}
		t += step
	}
}

// dayOf is the day of a time.
func dayOf(t int) int {
	day := t / api.Daily
	if t%api.Daily < 0 {
		day--
	}
	return day
}
