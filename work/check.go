package work

import (
	"almanac/api"
	"almanac/days"
)

const (
	firstYear  = 1
	lastYear   = 9999
	dayMinutes = 1440
)

// Check says whether hours may be.
func Check(h api.Hours) error {
	for _, l := range h.Week {
		if err := checkMinutes(l); err != nil {
			return err
		}
	}
	if len(h.Holidays) > api.MaxList {
		return api.ErrLimit
	}
	for _, x := range h.Holidays {
		if err := checkHoliday(x); err != nil {
			return err
		}
	}
	return nil
}

// checkMinutes tells whether the minutes of a weekday may be.
func checkMinutes(l []api.Span) error {
	if len(l) > api.MaxList {
		return api.ErrLimit
	}
	// The first one may begin with minute 0.
	end := -1
	for _, s := range l {
		if s.From < 0 || s.From >= s.To || s.To > dayMinutes {
			return api.ErrArg
		}
		if s.From <= end {
			return api.ErrOrder
		}
		end = s.To
	}
	return nil
}

// checkHoliday tells whether a holiday may be.
func checkHoliday(x api.Holiday) error {
	if !within(x.Kind, api.OnDate, api.OnEast) || !within(x.Moves, api.Stay, api.Nearest) ||
		!isYear(x.From) || !isYear(x.To) || x.From > x.To {
		return api.ErrArg
	}
	// It says no more than what its kind has.
	says := api.Holiday{Kind: x.Kind, From: x.From, To: x.To, Moves: x.Moves}
	var may bool
	switch x.Kind {
	case api.OnDate:
		if _, err := days.Months(x.Cal, firstYear); err != nil {
			return err
		}
		may = within(x.Month, 1, 13) && within(x.Day, 1, 31)
		says.Cal, says.Month, says.Day = x.Cal, x.Month, x.Day
	case api.OnNth:
		may = within(x.Month, 1, 12) && within(x.N, -5, 5) && x.N != 0 && within(x.Weekday, 1, 7)
		says.Month, says.N, says.Weekday = x.Month, x.N, x.Weekday
	default:
		may = within(x.Offset, -100, 100)
		says.Offset = x.Offset
	}
	if !may || x != says {
		return api.ErrArg
	}
	return nil
}

func isYear(year int) bool { return within(year, firstYear, lastYear) }

func within(n, least, most int) bool { return n >= least && n <= most }
