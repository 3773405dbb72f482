package zone_test

import (
	"fmt"
	"math/rand"
	"slices"
	"strings"
	"testing"
	"time"

	"almanac/api"
	"almanac/zone"
)

// A model of a zone: what chapter 3 says of turns, word by word, without a thought of how long it takes.

type modelTime struct {
	second int
	meant  byte
}

// moment is a moment of a turn or until, with what is shown then.
func (m modelTime) moment(shown, offset, save int) int {
	switch m.meant {
	case 'u':
		return shown
	case 's':
		return shown - offset
	}
	return shown - offset - save
}

type modelRule struct {
	modelTime
	name            string
	from, to, month int
	on              string
	save            int
}

type modelTurn struct {
	modelTime
	shown, save int
}

type modelEra struct {
	modelTime
	offset           int
	rules            string
	ends             bool
	year, month, day int
}

type model struct {
	rules []modelRule
	eras  []modelEra
	turns [][]modelTurn // of each era
	until []int         // moments
}

// dayOf is the day of which a rule's text tells, as Go's library has it.
func (r modelRule) dayOf(year int) time.Time {
	var weekday, day int
	first := time.Date(year, time.Month(r.month), 1, 0, 0, 0, 0, time.UTC)
	step := 0
	switch {
	case strings.HasPrefix(r.on, "last"):
		fmt.Sscanf(r.on, "last%d", &weekday)
		day, step = first.AddDate(0, 1, -1).Day(), -1
	case strings.Contains(r.on, ">="):
		fmt.Sscanf(r.on, "%d>=%d", &weekday, &day)
		step = 1
	case strings.Contains(r.on, "<="):
		fmt.Sscanf(r.on, "%d<=%d", &weekday, &day)
		step = -1
	default:
		fmt.Sscanf(r.on, "%d", &day)
	}
	date := first.AddDate(0, 0, day-1)
	for step != 0 && int(date.Weekday()) != weekday%7 {
		date = date.AddDate(0, 0, step)
	}
	return date
}

// work works out turns and the moments of untils.
func (m *model) work() {
	m.turns, m.until = nil, nil
	for _, e := range m.eras {
		var l []modelTurn
		for _, r := range m.rules {
			for year := r.from; r.name == e.rules && year <= r.to; year++ {
				l = append(l, modelTurn{r.modelTime, int(r.dayOf(year).Unix()) + r.second, r.save})
			}
		}
		slices.SortStableFunc(l, func(a, b modelTurn) int { return a.shown - b.shown })
		shown := seconds(e.year, e.month, e.day, 0, 0) + e.second
		save := 0
		for _, t := range l {
			if t.shown < shown {
				save = t.save
			}
		}
		m.turns = append(m.turns, l)
		m.until = append(m.until, e.moment(shown, e.offset, save))
	}
}

func (m *model) at(t int) api.Now {
	for i, e := range m.eras {
		if e.ends && m.until[i] <= t {
			continue
		}
		save, told := 0, 0
		for _, x := range m.turns[i] {
			if x.moment(x.shown, e.offset, save) <= t {
				told = x.save
			}
			save = x.save
		}
		return api.Now{Offset: e.offset + told, Save: told}
	}
	panic("the last era has no until")
}

// changes are all that there are: moments of turns and untils at which the clocks go otherwise than just ahead.
func (m *model) changes() []api.Change {
	var moments []int
	for i, e := range m.eras {
		save := 0
		for _, x := range m.turns[i] {
			moments = append(moments, x.moment(x.shown, e.offset, save))
			save = x.save
		}
		if e.ends {
			moments = append(moments, m.until[i])
		}
	}
	slices.Sort(moments)
	var l []api.Change
	for _, t := range slices.Compact(moments) {
		if now := m.at(t); now != m.at(t-1) {
			l = append(l, api.Change{At: api.Instant(t), Now: now})
		}
	}
	return l
}

// moments are those at which the clocks show a time: tried with each offset that there may be.
func (m *model) moments(l api.Local) []api.Instant {
	var found []api.Instant
	for _, e := range m.eras {
		for _, save := range append([]modelRule{{}}, m.rules...) {
			t := int(l) - e.offset - save.save
			if m.at(t).Offset == int(l)-t {
				found = append(found, api.Instant(t))
			}
		}
	}
	slices.Sort(found)
	return slices.Compact(found)
}

// resolve is what Resolve answers, and its error.
func (m *model) resolve(l api.Local, how int, changes []api.Change) (api.Instant, api.Errno) {
	found := m.moments(l)
	switch {
	case len(found) == 1:
		return found[0], api.OK
	case how == api.Refuse:
		return 0, api.ErrTwice
	}
	for _, c := range changes {
		ahead := api.Instant(int(l) - m.at(int(c.At)-1).Offset)
		behind := api.Instant(int(l) - c.Now.Offset)
		if len(found) == 0 && ahead >= c.At && behind < c.At {
			found = []api.Instant{min(ahead, behind), max(ahead, behind)}
		}
	}
	if how == api.Early {
		return found[0], api.OK
	}
	return found[len(found)-1], api.OK
}

// text writes the zone; lines are in no order but that of rules and that of eras.
func (m *model) text(r *rand.Rand) string {
	var rules, eras, lines []string
	for _, x := range m.rules {
		to := fmt.Sprint(x.to)
		switch {
		case x.to == api.LastYear:
			to = "max"
		case x.to == x.from:
			to = "only"
		}
		rules = append(rules, fmt.Sprintf("rule %s %d %s %d %s %s %s", x.name, x.from, to, x.month, x.on, x.text(), offsetText(x.save)))
	}
	for _, e := range m.eras {
		line := fmt.Sprintf("era %s %s", offsetText(e.offset), e.rules)
		if e.ends {
			line += fmt.Sprintf(" until %d %d %d %s", e.year, e.month, e.day, e.text())
		}
		eras = append(eras, line)
	}
	for len(rules)+len(eras) > 0 {
		from := &rules
		if len(rules) == 0 || len(eras) > 0 && r.Intn(2) == 0 {
			from = &eras
		}
		lines = append(lines, (*from)[0])
		*from = (*from)[1:]
	}
	return strings.Join(lines, "\n")
}

func (m modelTime) text() string {
	return fmt.Sprintf("%02d:%02d%c", m.second/3600, m.second/60%60, m.meant)
}

func offsetText(n int) string {
	sign := "+"
	if n < 0 {
		sign, n = "-", -n
	}
	return fmt.Sprintf("%s%02d:%02d", sign, n/3600, n/60%60)
}

// someModel is a zone of any kind. Its rules often turn close to each other and to its untils, by much, so that moments are in other orders than what is shown.
func someModel(r *rand.Rand) *model {
	m := &model{}
	most := []int{120, 600, 1439}[r.Intn(3)] // minutes that offset and save may have
	offset := func() int { return 60 * (r.Intn(2*most+1) - most) }
	dayTime := func() modelTime {
		return modelTime{60 * []int{0, 60, 120, 1440, r.Intn(1441)}[r.Intn(5)], "wsu"[r.Intn(3)]}
	}
	on := func() string {
		weekday, day := 1+r.Intn(7), []int{1, 2, 28, 1 + r.Intn(28)}[r.Intn(4)]
		switch r.Intn(4) {
		case 0:
			return fmt.Sprintf("last%d", weekday)
		case 1:
			return fmt.Sprintf("%d>=%d", weekday, day)
		case 2:
			return fmt.Sprintf("%d<=%d", weekday, day)
		}
		return fmt.Sprint(day)
	}
	months := []int{1, 12, 3, 4, 1 + r.Intn(12)}[r.Intn(5):]
	for range r.Intn(8) {
		x := modelRule{modelTime: dayTime(), name: []string{"a", "b"}[r.Intn(2)], from: 1990 + r.Intn(4), month: months[r.Intn(len(months))], on: on()}
		x.to = x.from + r.Intn(4)
		if r.Intn(2) == 0 {
			x.save = offset()
		}
		m.rules = append(m.rules, x)
	}
	day := time.Date(1990, time.Month(months[0]), 27, 0, 0, 0, 0, time.UTC)
	for range r.Intn(7) {
		e := modelEra{modelTime: dayTime(), rules: m.someRules(r), ends: true}
		if r.Intn(2) == 0 {
			e.offset = offset()
		}
		// The untils are close to each other, each on a day of its own, and none at its end: so each is later than the one ahead.
		day = day.AddDate(r.Intn(3)/2, 0, 1+r.Intn(5))
		e.second %= api.Daily
		e.year, e.month, e.day = day.Year(), int(day.Month()), day.Day()
		m.eras = append(m.eras, e)
	}
	m.eras = append(m.eras, modelEra{offset: offset(), rules: m.someRules(r)})
	m.work()
	return m
}

// someRules are those of some name that the rules have, or none.
func (m *model) someRules(r *rand.Rand) string {
	n := r.Intn(len(m.rules) + 1)
	if n == len(m.rules) {
		return "-"
	}
	return m.rules[n].name
}

// TestModel holds zones of all kinds against the model: at the moments of all turns and just ahead of them, and at times about those.
func TestModel(t *testing.T) {
	r := rand.New(rand.NewSource(3))
	seen := [3]int{} // times that are never shown, once, several times
	for range 1500 {
		m := someModel(r)
		text := m.text(r)
		z := mustParse(t, text)
		changes := m.changes()
		wantList(t, at("3.4: %q: Changes", text), z.Changes(someEarly, someLate), changes)
		for _, c := range changes {
			for _, k := range []int{-1, 0, 1, r.Intn(7200), -r.Intn(7200), r.Intn(172800), -r.Intn(172800)} {
				x := c.At + api.Instant(k)
				wantValue(t, at("3.3: %q: At(%d)", text, x), z.At(x), nil, m.at(int(x)))
				l := api.Local(int(x) + r.Intn(2)*m.at(int(x)).Offset)
				got := z.Moments(l)
				wantList(t, at("3.4: %q: Moments(%d)", text, l), got, m.moments(l))
				seen[min(len(got), 2)]++
				how := r.Intn(3)
				want, errno := m.resolve(l, how, changes)
				answer, err := z.Resolve(l, how)
				if errno != api.OK {
					wantError(t, at("3.5: %q: Resolve(%d, %d)", text, l, how), answer, err, errno)
				} else {
					wantValue(t, at("3.5: %q: Resolve(%d, %d)", text, l, how), answer, err, want)
				}
			}
			if t.Failed() {
				return
			}
		}
	}
	if min(seen[0], seen[1], seen[2]) < 1000 {
		t.Errorf("%v times were never shown, shown once, shown several times: too few of a kind", seen)
	}
}

// TestParts asks for changes in parts: together they are all, and each has those from its beginning on, up to its end.
func TestParts(t *testing.T) {
	r := rand.New(rand.NewSource(4))
	for range 200 {
		m := someModel(r)
		z := mustParse(t, m.text(r))
		var l []api.Change
		from := someEarly
		for _, c := range m.changes() {
			to := c.At + api.Instant(r.Intn(3)-1)
			l = append(l, z.Changes(from, to)...)
			from = max(from, to)
		}
		l = append(l, z.Changes(from, someLate)...)
		wantList(t, at("3.4: %q: Changes in parts", m.text(r)), l, m.changes())
	}
}

// TestAskedAnew: what a zone answers does not hang on what it was asked for first.
func TestAskedAnew(t *testing.T) {
	at := moment(2024, 3, 31, 1, 0)
	for i, ask := range []func(z *zone.Zone) string{
		func(z *zone.Zone) string { return fmt.Sprint(z.At(at), z.At(at-1)) },
		func(z *zone.Zone) string { return fmt.Sprint(z.Changes(at, at+30*api.Daily)) },
		func(z *zone.Zone) string { return fmt.Sprint(z.Local(at)) },
		func(z *zone.Zone) string { return fmt.Sprint(z.Moments(local(2024, 10, 27, 2, 30))) },
		func(z *zone.Zone) string { return fmt.Sprint(z.Resolve(local(2024, 3, 31, 2, 30), api.Late)) },
	} {
		old := mustParse(t, europe)
		old.Changes(someEarly, someLate)
		if got, want := ask(mustParse(t, europe)), ask(old); got != want {
			t.Errorf("3.4: question %d, asked first: %s; asked later: %s", i, got, want)
		}
	}
}
