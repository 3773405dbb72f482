package rule

import (
	"iter"
	"slices"

	"almanac/api"
)

const weekDays = 7

// times goes over the rule's times that are not ahead of one.
func (s *series) times(from api.Local) iter.Seq[api.Local] {
	first, last := s.window(from)
	return func(yield func(api.Local) bool) {
		count := 0
		for begins := range s.periods(first, last) {
			for t := range s.timesOf(begins) {
				if t < s.start {
					continue
				}
				if t > s.end {
					return
				}
				count++
				if t >= from && !yield(t) || count == s.rule.Count {
					return
				}
			}
		}
	}
}

// window are the first and the last day that must be gone over for all times from one on.
func (s *series) window(from api.Local) (first, last int) {
	begin := s.start
	// Where times are counted, those ahead of what is asked for are, too.
	if s.rule.Count == 0 {
		begin = max(begin, min(from, s.end))
	}
	// A period that has a time asked for lies in the window as a whole, and its places can be counted; what the window's ends cut through has none.
	long := s.longest()
	return floor(int(begin), api.Daily) - long, floor(int(s.end), api.Daily) + long
}

// longest is how many days the longest period has, in whatever calendar.
func (s *series) longest() int {
	switch s.rule.Freq {
	case api.Yearly:
		return 385
	case api.Monthly:
		return 31
	case api.Weekly:
		return weekDays
	}
	return 1
}

// periods goes over the periods that count, and have something that fits: where the pieces begin that do.
func (s *series) periods(first, last int) iter.Seq[[]api.Local] {
	return func(yield func([]api.Local) bool) {
		var begins []api.Local
		current := 0
		for period, begin := range s.fitting(first, last) {
			if period != current && len(begins) > 0 {
				if !yield(begins) {
					return
				}
				begins = begins[:0]
			}
			current = period
			begins = append(begins, begin)
		}
		if len(begins) > 0 {
			yield(begins)
		}
	}
}

// fitting goes over the pieces that fit, of periods that count: in which period they are, and where they begin.
func (s *series) fitting(first, last int) iter.Seq2[int, api.Local] {
	number := s.numbers()
	return func(yield func(int, api.Local) bool) {
		for d := range daysBetween(s.rule.Cal, first, last, s.from.year) {
			if !s.fits(d) {
				continue
			}
			for _, hour := range s.pieces {
				period := number(d) + hour
				if s.counts(period) && !yield(period, api.Local(d.number*api.Daily+hour*hourSeconds)) {
					return
				}
			}
		}
	}
}

// numbers tells the number of the period in which a day begins; the start's is 0.
func (s *series) numbers() func(day) int {
	switch s.rule.Freq {
	case api.Yearly:
		return func(d day) int { return d.year - s.from.year }
	case api.Monthly:
		return func(d day) int { return d.months - s.from.months }
	case api.Weekly:
		ahead := mod(s.from.weekday()-s.rule.First, weekDays)
		return func(d day) int { return floor(d.number-s.from.number+ahead, weekDays) }
	case api.Hourly:
		return func(d day) int { return (d.number-s.from.number)*hoursOfDay - s.clock.Hour }
	}
	return func(d day) int { return d.number - s.from.number }
}

// counts says whether a period does. (Those ahead of the start's have only times that are ahead of the start.)
func (s *series) counts(period int) bool { return period%s.rule.Every == 0 }

// fits says whether a day does.
func (s *series) fits(d day) bool {
	for _, t := range s.tests {
		if !t(d) {
			return false
		}
	}
	return true
}

// timesOf goes over the times of a period, of which the pieces that fit begin so.
func (s *series) timesOf(begins []api.Local) iter.Seq[api.Local] {
	if len(s.rule.Places) > 0 {
		return s.placed(begins)
	}
	return func(yield func(api.Local) bool) {
		for _, begin := range begins {
			for _, t := range s.inPieces {
				if !yield(begin + t) {
					return
				}
			}
		}
	}
}

// placed goes over those of a period's times whose place is told.
func (s *series) placed(begins []api.Local) iter.Seq[api.Local] {
	many := len(s.inPieces)
	all := len(begins) * many
	var l []int
	for _, p := range s.rule.Places {
		if p < 0 {
			p += all + 1
		}
		if within(p, 1, all) {
			l = append(l, p-1)
		}
	}
	slices.Sort(l)
	l = slices.Compact(l)
	return func(yield func(api.Local) bool) {
		for _, i := range l {
			if !yield(begins[i/many] + s.inPieces[i%many]) {
				return
			}
		}
	}
}

// floor is n through by, rounded down (Go's own division rounds towards 0); by is above 0.
func floor(n, by int) int {
	q := n / by
	if n%by < 0 {
		q--
	}
	return q
}

// mod is what floor leaves: from 0 to by - 1.
func mod(n, by int) int {
	r := n % by
	if r < 0 {
		r += by
	}
	return r
}
