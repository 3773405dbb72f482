package rule

import (
	"iter"
	"slices"

	"almanac/api"
	"almanac/days"
)

// place is which one of so many something is, counted from 1 on.
type place struct{ n, of int }

// among says whether a list tells the place, counted from 1 on, or from behind with -1 for the last one.
func (p place) among(list []int) bool {
	return slices.Contains(list, p.n) || slices.Contains(list, p.behind())
}

// behind is the place as it is counted from behind.
func (p place) behind() int { return p.n - p.of - 1 }

// ofWeekday is, of a day's place, the one that it has among the days of its weekday alone.
func (p place) ofWeekday() place {
	n := (p.n-1)/weekDays + 1
	return place{n, n + (p.of-p.n)/weekDays}
}

// day is a day, and where it lies in a calendar.
type day struct {
	number          int
	year, month     int
	months          int // how many there are from the start's year on, up to its own
	inMonth, inYear place
}

func (d day) weekday() int { return days.Weekday(d.number) }

// year is a year of a calendar.
type year struct {
	number  int
	first   int // its first day
	long    int // how many days it has
	lengths []int
	months  int // how many there are from the start's year on, up to its first one
}

// yearsFrom goes over the years of a calendar, from the one that has a day on. Months are counted from the year since on.
func yearsFrom(c api.Cal, first, since int) iter.Seq[year] {
	return func(yield func(year) bool) {
		date, err := days.Of(c, first)
		if err != nil {
			return
		}
		y := year{number: date.Year, months: monthsUpTo(c, since, date.Year)}
		y.first, err = days.Day(api.Date{Cal: c, Year: date.Year, Month: 1, Day: 1})
		for err == nil {
			if y.lengths, err = lengthsOf(c, y.number); err != nil {
				return
			}
			y.long = 0
			for _, n := range y.lengths {
				y.long += n
			}
			if !yield(y) {
				return
			}
			y.number++
			y.first += y.long
			y.months += len(y.lengths)
		}
	}
}

// days goes over the days of a year.
func (y year) days() iter.Seq[day] {
	return func(yield func(day) bool) {
		ahead := 0
		for i, long := range y.lengths {
			for k := range long {
				ahead++
				d := day{
					number:  y.first + ahead - 1,
					year:    y.number,
					month:   i + 1,
					months:  y.months + i,
					inMonth: place{k + 1, long},
					inYear:  place{ahead, y.long},
				}
				if !yield(d) {
					return
				}
			}
		}
	}
}

// daysBetween goes over the days of a calendar, from one up to a last one. Months are counted from the year since on.
func daysBetween(c api.Cal, first, last, since int) iter.Seq[day] {
	return func(yield func(day) bool) {
		for y := range yearsFrom(c, first, since) {
			for d := range y.days() {
				if d.number > last {
					return
				}
				if d.number >= first && !yield(d) {
					return
				}
			}
		}
	}
}

// lengthsOf are how many days the months of a year have.
func lengthsOf(c api.Cal, year int) ([]int, error) {
	months, err := days.Months(c, year)
	if err != nil {
		return nil, err
	}
	l := make([]int, months)
	for i := range l {
		if l[i], err = days.Length(c, year, i+1); err != nil {
			return nil, err
		}
	}
	return l, nil
}

// monthsUpTo is how many months there are from a year on, up to another one: below 0, if that one is ahead.
func monthsUpTo(c api.Cal, since, year int) int {
	n := 0
	for y := min(since, year); y < max(since, year); y++ {
		// All of these years are there: the days are, that are gone over.
		months, _ := days.Months(c, y)
		n += months
	}
	if year < since {
		return -n
	}
	return n
}
