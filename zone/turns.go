package zone

import (
	"cmp"
	"slices"

	"almanac/api"
	"almanac/days"
)

// dayTime is a time of a day, and how it is meant.
type dayTime struct {
	second int // from midnight on: api.Daily is the midnight behind the day
	meant  byte
}

// How a day's time is meant.
const (
	wall      = 'w' // as the clocks show it
	standard  = 's' // as they would show it if nothing were saved
	universal = 'u' // as clocks of offset 0 show it
)

// on is the time on a day.
func (t dayTime) on(day int) api.Local { return api.Local(day*api.Daily + t.second) }

// ahead is how far the time is ahead of what clocks of offset 0 show at its moment.
func (t dayTime) ahead(offset, save int) int {
	switch t.meant {
	case universal:
		return 0
	case standard:
		return offset
	}
	return offset + save
}

// monthDay tells a day of a month: the day itself, or a weekday.
type monthDay struct {
	day     int // 0: the month's last one
	weekday int // 0: whichever the day has
	back    bool
}

// in is the day in a month of a year.
func (m monthDay) in(year, month int) int {
	day := monthsDay(year, month, m.day)
	switch {
	case m.weekday == 0:
		return day
	case m.back:
		return day - (days.Weekday(day)-m.weekday+7)%7
	}
	return day + (m.weekday-days.Weekday(day)+7)%7
}

// monthsDay is the day with a number in a month, or, for 0, the month's last one. The years and days of which rules tell are all there, so nothing is wrong with them.
func monthsDay(year, month, number int) int {
	if number == 0 {
		number, _ = days.Length(api.Gregorian, year, month)
	}
	day, _ := days.Day(api.Date{Cal: api.Gregorian, Year: year, Month: month, Day: number})
	return day
}

// rule tells of years that a day's time saves so much in each of them.
type rule struct {
	dayTime
	name     string
	from, to int
	month    int
	monthDay monthDay
	save     int
}

// turn is the turn of a rule in a year.
func (r rule) turn(year int) turn {
	return turn{dayTime: r.dayTime, shown: r.on(r.monthDay.in(year, r.month)), rules: r.name, save: r.save}
}

// turn is a day's time from which on so much is saved.
type turn struct {
	dayTime
	shown api.Local // the time on its day
	rules string    // the name of the rules that tell of it
	save  int
}

// moment is when a turn is in an era of this offset, where so much has been saved ahead of it.
func (t turn) moment(offset, save int) api.Instant {
	return api.Instant(t.shown) - api.Instant(t.ahead(offset, save))
}

// turnsOf are the turns of rules in order. Of like ones that of the rule that stands first is the first.
func turnsOf(rules []rule) []turn {
	var l []turn
	for _, r := range rules {
		for year := r.from; year <= r.to; year++ {
			l = append(l, r.turn(year))
		}
	}
	slices.SortStableFunc(l, func(a, b turn) int { return cmp.Compare(a.shown, b.shown) })
	return l
}

// noRules is what an era names that has no rules.
const noRules = "-"

// era is how clocks go up to a time.
type era struct {
	offset int
	rules  string
	ends   bool
	until  turn
}

// own are those of all turns that are the era's.
func (e era) own(all []turn) []turn {
	var l []turn
	for _, t := range all {
		if t.rules == e.rules {
			l = append(l, t)
		}
	}
	return l
}

// end is the moment of an era's until, with the era's turns.
func (e era) end(own []turn) api.Instant {
	save := 0
	for _, t := range own {
		if t.shown < e.until.shown {
			save = t.save
		}
	}
	return e.until.moment(e.offset, save)
}

// tells are the changes that an era's turns make. In order of their moments a turn may stand behind one that it is ahead of: then the later one of their order tells, and the other one doesn't, or does no more.
func (e era) tells(own []turn) []api.Change {
	var l []api.Change
	for i := len(own) - 1; i >= 0; i-- {
		save := 0
		if i > 0 {
			save = own[i-1].save
		}
		at := own[i].moment(e.offset, save)
		if len(l) == 0 || at < l[len(l)-1].At {
			l = append(l, api.Change{At: at, Now: e.now(own[i].save)})
		}
	}
	slices.Reverse(l)
	return l
}

// now is how the clocks go while so much is saved.
func (e era) now(save int) api.Now { return api.Now{Offset: e.offset + save, Save: save} }
