package rule

import (
	"slices"

	"almanac/api"
	"almanac/clock"
	"almanac/days"
)

const (
	hourSeconds   = 3600
	minuteSeconds = 60
	hoursOfDay    = 24
)

// series is a rule that begins at a time. A piece of time is what fits or not as a whole: a day or, of what comes again by hours, an hour.
type series struct {
	rule     api.Rule
	start    api.Local
	end      api.Local // no time is later
	from     day       // the start's
	clock    api.Clock // the start's
	tests    []test
	pieces   []int       // the hours with which the pieces of a day begin that fits
	inPieces []api.Local // the times of such a piece, from its beginning on
}

// seriesOf is a rule that begins at a time, if it may.
func seriesOf(r api.Rule, start api.Local) (*series, error) {
	const margin = 40_000
	if err := Check(r); err != nil {
		return nil, err
	}
	number, _, err := clock.Split(start)
	if err != nil {
		return nil, err
	}
	if number < margin-api.MaxDay || number > api.MaxDay-margin {
		return nil, api.ErrRange
	}
	s := &series{rule: own(r), start: start}
	if _, s.clock, err = clock.Tell(start); err != nil {
		return nil, err
	}
	if s.end, err = clock.Join(number+api.Horizon, api.Daily-1); err != nil {
		return nil, err
	}
	if r.Ends {
		s.end = min(s.end, r.Until)
	}
	if s.from, err = dayOf(r.Cal, number); err != nil {
		return nil, err
	}
	s.tests = testsOf(s.rule, s.from)
	s.cut()
	return s, nil
}

// own is a rule with lists of its own, which nobody else writes into as long as it is gone over.
func own(r api.Rule) api.Rule {
	r.Days = slices.Clone(r.Days)
	for _, list := range listsOf(&r) {
		*list = slices.Clone(*list)
		slices.Sort(*list)
		*list = slices.Compact(*list)
	}
	return r
}

// dayOf is a day, where months are counted from its own year on.
func dayOf(c api.Cal, number int) (day, error) {
	date, err := days.Of(c, number)
	if err != nil {
		return day{}, err
	}
	for d := range daysBetween(c, number, number, date.Year) {
		return d, nil
	}
	return day{}, api.ErrRange
}

// cut cuts a day that fits into pieces.
func (s *series) cut() {
	hours := or(s.rule.Hours, s.clock.Hour)
	s.pieces = []int{0}
	if s.rule.Freq == api.Hourly {
		hours, s.pieces = s.pieces, or(s.rule.Hours, wholeDay()...)
	}
	for _, hour := range hours {
		for _, minute := range or(s.rule.Minutes, s.clock.Minute) {
			for _, second := range or(s.rule.Seconds, s.clock.Second) {
				s.inPieces = append(s.inPieces, api.Local(hour*hourSeconds+minute*minuteSeconds+second))
			}
		}
	}
}

// wholeDay are all hours of a day.
func wholeDay() []int {
	l := make([]int, hoursOfDay)
	for i := range l {
		l[i] = i
	}
	return l
}

// or are the numbers of a list or, if it has none, others.
func or(list []int, others ...int) []int {
	if len(list) == 0 {
		return others
	}
	return list
}
