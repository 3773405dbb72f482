package rule_test

import (
	"slices"
	"testing"

	"almanac/api"
	"almanac/days"
)

// A model of rules: what chapter 6 says, day by day, in the plainest way.

// almanac has the dates of a calendar about a start, more than any time of a rule and its period need.
type almanac struct {
	first int // the number of the first date's day
	dates []api.Date
}

// about is how many days an almanac has more, to each side.
const about = 900

func almanacOf(t *testing.T, c api.Cal, start int) *almanac {
	a := &almanac{first: start - about}
	for day := a.first; day <= start+api.Horizon+about; day++ {
		d, err := days.Of(c, day)
		if err != nil {
			t.Fatalf("no date %d of calendar %d: %v", day, c, err)
		}
		a.dates = append(a.dates, d)
	}
	return a
}

// model is a rule that begins on a day of an almanac, at a second of the day.
type model struct {
	*almanac
	r      api.Rule
	start  int // which of the dates
	second int
}

// sameMonth and sameYear say whether two of the dates are of one.
func (m *model) sameMonth(i, k int) bool {
	return m.dates[i].Month == m.dates[k].Month && m.sameYear(i, k)
}
func (m *model) sameYear(i, k int) bool { return m.dates[i].Year == m.dates[k].Year }

func (m *model) weekday(i int) int { return days.Weekday(m.first + i) }

// counted is which one a day is, by steps of so many days, of those that are the same as it; from ahead, and from behind.
func counted(i, step int, same func(i, k int) bool) (ahead, behind int) {
	for k := i; same(i, k); k -= step {
		ahead++
	}
	for k := i; same(i, k); k += step {
		behind--
	}
	return ahead, behind
}

// told says whether a list has one of two numbers; also, if it has none.
func told(l []int, ahead, behind int) bool {
	return len(l) == 0 || slices.Contains(l, ahead) || slices.Contains(l, behind)
}

// weekYear is the year to whose weeks a day belongs: the one that has four days of its week, or more.
func (m *model) weekYear(i int) int {
	for m.weekday(i) != m.r.First {
		i--
	}
	year := m.dates[i].Year
	own := 0
	for k := i; k < i+7; k++ {
		if m.dates[k].Year == year {
			own++
		}
	}
	if own >= 4 {
		return year
	}
	return m.dates[i+6].Year
}

// fits says whether a day does.
func (m *model) fits(i int) bool {
	r, d, s := m.r, m.dates[i], m.dates[m.start]
	if !told(r.Months, d.Month, d.Month) || !m.fitsCounted(i) {
		return false
	}
	if len(r.YearDays) > 0 || len(r.MonthDays) > 0 || len(r.Days) > 0 {
		return true
	}
	switch {
	case len(r.Weeks) > 0 || r.Freq == api.Weekly:
		return m.weekday(i) == m.weekday(m.start)
	case r.Freq == api.Yearly:
		return d.Day == s.Day && (len(r.Months) > 0 || d.Month == s.Month)
	case r.Freq == api.Monthly:
		return d.Day == s.Day
	}
	return true
}

// fitsCounted says whether a day fits by all lists in which something is counted.
func (m *model) fitsCounted(i int) bool {
	r := m.r
	if len(r.Weeks) > 0 {
		ahead, behind := counted(i, 7, func(i, k int) bool { return m.weekYear(i) == m.weekYear(k) })
		if !told(r.Weeks, ahead, behind) {
			return false
		}
	}
	if len(r.YearDays) > 0 {
		ahead, behind := counted(i, 1, m.sameYear)
		if !told(r.YearDays, ahead, behind) {
			return false
		}
	}
	if len(r.MonthDays) > 0 {
		ahead, behind := counted(i, 1, m.sameMonth)
		if ahead != m.dates[i].Day {
			panic("the almanac is torn")
		}
		if !told(r.MonthDays, ahead, behind) {
			return false
		}
	}
	return len(r.Days) == 0 || m.fitsWeekday(i)
}

func (m *model) fitsWeekday(i int) bool {
	same := m.sameMonth
	if m.r.Freq == api.Yearly && len(m.r.Months) == 0 {
		same = m.sameYear
	}
	ahead, behind := counted(i, 7, same)
	for _, x := range m.r.Days {
		if x.Day == m.weekday(i) && (x.N == 0 || x.N == ahead || x.N == behind) {
			return true
		}
	}
	return false
}

// seconds are those of a day that fit, one by one.
func (m *model) seconds() []int {
	has := func(l []int, n, start int) bool {
		return len(l) == 0 && n == start || slices.Contains(l, n)
	}
	var l []int
	for n := range api.Daily {
		hour := has(m.r.Hours, n/3600, m.second/3600) || m.r.Freq == api.Hourly && len(m.r.Hours) == 0
		if hour && has(m.r.Minutes, n/60%60, m.second/60%60) && has(m.r.Seconds, n%60, m.second%60) {
			l = append(l, n)
		}
	}
	return l
}

// begins says whether a period begins with an hour of a day; of what is longer than hours with hour 0.
func (m *model) begins(i, hour int) bool {
	switch m.r.Freq {
	case api.Yearly:
		return hour == 0 && (i == 0 || !m.sameYear(i, i-1))
	case api.Monthly:
		return hour == 0 && (i == 0 || !m.sameMonth(i, i-1))
	case api.Weekly:
		return hour == 0 && m.weekday(i) == m.r.First
	case api.EachDay:
		return hour == 0
	}
	return true
}

// periods are the times of all periods of the almanac, and which of these has the start.
func (m *model) periods() (l [][]api.Local, start int) {
	seconds := m.seconds()
	l = [][]api.Local{nil}
	for i := range m.dates {
		fits := i >= 400 && i < len(m.dates)-400 && m.fits(i)
		rest := seconds
		for hour := range 24 {
			if m.begins(i, hour) {
				l = append(l, nil)
			}
			if i == m.start && hour == m.second/3600 {
				start = len(l) - 1
			}
			for ; fits && len(rest) > 0 && rest[0]/3600 == hour; rest = rest[1:] {
				l[len(l)-1] = append(l[len(l)-1], api.Local((m.first+i)*api.Daily+rest[0]))
			}
		}
	}
	return l, start
}

// times are the rule's.
func (m *model) times() []api.Local {
	var l []api.Local
	periods, start := m.periods()
	for n := start; n < len(periods); n += m.r.Every {
		of := len(periods[n])
		for i, t := range periods[n] {
			day := (int(t) - (int(t)%api.Daily+api.Daily)%api.Daily) / api.Daily
			switch {
			case !told(m.r.Places, i+1, i-of),
				t < api.Local((m.first+m.start)*api.Daily+m.second),
				day > m.first+m.start+api.Horizon,
				m.r.Ends && t > m.r.Until,
				m.r.Count != 0 && len(l) == m.r.Count:
				continue
			}
			l = append(l, t)
		}
	}
	return l
}
