package cron_test

import (
	"math"
	"math/rand"
	"testing"

	"almanac/api"
	"almanac/cron"
)

// Promise 7.3.

// wantNext says whether the times behind one are these, one behind the other, and all of them fit.
func wantNext(t *testing.T, text, behind string, want ...string) {
	t.Helper()
	c := read(t, text)
	last := local(behind)
	for _, w := range want {
		next, err := cron.Next(c, last)
		wantValue(t, at("7.3: %q behind %s", text, shown(last)), shown(next).String(), err, shown(local(w)).String())
		ok, err := cron.Fits(c, next)
		wantValue(t, at("7.3: Fits(%q, %s)", text, shown(next)), ok, err, true)
		last = next
	}
}

func TestNext(t *testing.T) {
	wantNext(t, "30 9 15W * *", "2024-03-31T00:00:00", "2024-04-15T09:30:00", "2024-05-15T09:30:00", "2024-06-14T09:30:00", "2024-07-15T09:30:00")
	wantNext(t, "* * * * *", "2024-02-28T23:58:59", "2024-02-28T23:59:00", "2024-02-29T00:00:00", "2024-02-29T00:01:00")
	wantNext(t, "0 12 * * *", "2024-02-28T12:00:00", "2024-02-29T12:00:00")
	wantNext(t, "0 12 * * *", "2024-02-28T11:59:59", "2024-02-28T12:00:00")
	wantNext(t, "*/30 9,17 * * *", "2024-07-08T08:00:00", "2024-07-08T09:00:00", "2024-07-08T09:30:00", "2024-07-08T17:00:00", "2024-07-08T17:30:00", "2024-07-09T09:00:00")
	wantNext(t, "0 0 29 2 *", "2023-02-28T00:00:00", "2024-02-29T00:00:00", "2028-02-29T00:00:00")
	wantNext(t, "0 0 29 2 *", "2096-02-29T00:00:00", "2104-02-29T00:00:00")
	wantNext(t, "0 0 31 * *", "2024-01-31T00:00:00", "2024-03-31T00:00:00", "2024-05-31T00:00:00")
	wantNext(t, "0 0 L * *", "2024-01-31T00:00:00", "2024-02-29T00:00:00", "2024-03-31T00:00:00", "2024-04-30T00:00:00")
	wantNext(t, "0 0 * * 5L", "2024-02-01T00:00:00", "2024-02-23T00:00:00", "2024-03-29T00:00:00", "2024-04-26T00:00:00")
	wantNext(t, "0 0 * * 5#2", "2024-02-01T00:00:00", "2024-02-09T00:00:00", "2024-03-08T00:00:00")
	wantNext(t, "0 0 * * 5#5", "2024-02-01T00:00:00", "2024-03-29T00:00:00", "2024-05-31T00:00:00")
	wantNext(t, "0 0 * * 0", "2024-02-01T00:00:00", "2024-02-04T00:00:00", "2024-02-11T00:00:00")
	// By the month or by the week, if both are told.
	wantNext(t, "0 0 13 * FRI", "2024-09-01T00:00:00", "2024-09-06T00:00:00", "2024-09-13T00:00:00", "2024-09-20T00:00:00", "2024-09-27T00:00:00", "2024-10-04T00:00:00", "2024-10-11T00:00:00", "2024-10-13T00:00:00")
	// All days of a month that are told one by one are days that are told.
	wantNext(t, "0 0 1-31 * 1", "2024-09-03T00:00:00", "2024-09-04T00:00:00")
	wantNext(t, "0 0 1 * */1", "2024-09-03T00:00:00", "2024-09-04T00:00:00")
}

// TestNear: a Saturday's goes to the day ahead, of the first day to the Monday; a Sunday's to the day behind, of the last day to the Friday; also where months are 28 or 29 days long.
func TestNear(t *testing.T) {
	wantNext(t, "0 0 1W * *", "2024-05-31T00:00:00", "2024-06-03T00:00:00", "2024-07-01T00:00:00", "2024-08-01T00:00:00", "2024-09-02T00:00:00")
	wantNext(t, "0 0 31W * *", "2024-03-02T00:00:00", "2024-03-29T00:00:00", "2024-05-31T00:00:00", "2024-07-31T00:00:00", "2024-08-30T00:00:00")
	wantNext(t, "0 0 30W 6 *", "2024-06-01T00:00:00", "2024-06-28T00:00:00", "2025-06-30T00:00:00")
	wantNext(t, "0 0 28W 2 *", "2021-02-01T00:00:00", "2021-02-26T00:00:00", "2022-02-28T00:00:00")
	wantNext(t, "0 0 28W 2 *", "2032-02-01T00:00:00", "2032-02-27T00:00:00")
	wantNext(t, "0 0 29W 2 *", "2021-02-01T00:00:00", "2024-02-29T00:00:00")
	wantNext(t, "0 0 29W 2 *", "2032-02-01T00:00:00", "2032-02-27T00:00:00")
	wantNext(t, "0 0 14W,16W 6 *", "2024-06-01T00:00:00", "2024-06-14T00:00:00", "2024-06-17T00:00:00")
}

// TestFits: seconds say nothing; the minute, the hour and the month do.
func TestFits(t *testing.T) {
	for text, want := range map[string]bool{
		"30 9 * * *":         true,
		"* * * 7 *":          true,
		"* * 8 * *":          true,
		"* * * * 1":          true,
		"* * * * 1#2":        true,
		"* * * * 1L":         false,
		"* * * * 1#1":        false,
		"* * 9 * 1":          true,
		"* * 8 * 2":          true,
		"* * 9 * 2":          false,
		"* * 6W,7W * *":      true,
		"* * 6W * *":         false,
		"* * L * *":          false,
		"29 9 * * *":         false,
		"30 10 * * *":        false,
		"30 9 8 6,8 1":       false,
		"0-29,31-59 * 8 7 1": false,
	} {
		for second := range api.Local(60) {
			ok, err := cron.Fits(read(t, text), local("2024-07-08T09:30:00")+second)
			wantValue(t, at("7.3: Fits(%q) of second %d", text, second), ok, err, want)
		}
	}
}

func TestTimesThatAreNotThere(t *testing.T) {
	for _, text := range []string{"* * * * *", "0 0 30 2 *"} {
		for _, x := range noTimes {
			ok, err := cron.Fits(read(t, text), x)
			wantError(t, at("7.3: Fits(%q, %d)", text, x), ok, err, api.ErrRange)
			next, err := cron.Next(read(t, text), x)
			wantError(t, at("7.3: Next(%q, %d)", text, x), next, err, api.ErrRange)
		}
	}
}

func TestNever(t *testing.T) {
	for _, text := range []string{"* * 30,31 2 *", "0 0 31 2,4,6,9,11 *", "0 0 30W 2 *", "0 0 31W 4 *"} {
		for _, behind := range []api.Local{firstTime, 0, local("2024-02-29T12:00:00"), lastTime} {
			next, err := cron.Next(read(t, text), behind)
			wantError(t, at("7.3: Next(%q, %d)", text, behind), next, err, api.ErrNone)
		}
	}
}

// TestHorizon: of a time that comes after forty years, the days are asked no more than Horizon days ahead of it.
func TestHorizon(t *testing.T) {
	// From 2064 on a February has five Fridays in 2092, and then, since 2100 has no leap day, in 2104; five Saturdays in 2076, and then in 2116.
	c := read(t, "30 12 * 2 SAT#5")
	ahead, want := local("2076-02-29T12:30:00"), local("2116-02-29T12:30:00")
	for _, behind := range []api.Local{ahead - 1, ahead - 86_400} {
		next, err := cron.Next(c, behind)
		wantValue(t, at("7.3: %s", shown(behind)), next, err, ahead)
	}
	day := api.Local(dayOf(want)-api.Horizon) * api.Daily
	for _, behind := range []api.Local{day, day + 12*3600 + 30*60, day + api.Daily - 1, day + api.Daily, want - 1} {
		next, err := cron.Next(c, behind)
		wantValue(t, at("7.3: %s", shown(behind)), next, err, want)
	}
	for _, behind := range []api.Local{day - 1, day - api.Daily, ahead} {
		next, err := cron.Next(c, behind)
		wantError(t, at("7.3: %s", shown(behind)), next, err, api.ErrNone)
	}
}

func TestEndsOfDays(t *testing.T) {
	c := anyMinute()
	for _, x := range []struct{ behind, want api.Local }{
		{firstTime, firstTime + 60},
		{firstTime + 59, firstTime + 60},
		{lastTime - 60, lastTime - 59},
		{lastTime - 119, lastTime - 59},
	} {
		next, err := cron.Next(c, x.behind)
		wantValue(t, at("7.3: Next(%d)", x.behind), next, err, x.want)
	}
	for _, behind := range []api.Local{lastTime - 59, lastTime - 58, lastTime} {
		next, err := cron.Next(c, behind)
		wantError(t, at("7.3: Next(%d)", behind), next, err, api.ErrNone)
	}
	for _, x := range []api.Local{firstTime, lastTime} {
		ok, err := cron.Fits(c, x)
		wantValue(t, at("7.3: Fits(%d)", x), ok, err, true)
	}
	// The last day is no last day of its month.
	next, err := cron.Next(read(t, "0 0 L * *"), lastTime-api.Daily)
	wantError(t, at("7.3: a last day that is not there"), next, err, api.ErrNone)
}

// TestWhatever: whatever is asked, there is an answer, and with an error nothing else.
func TestWhatever(t *testing.T) {
	r := rand.New(rand.NewSource(76))
	odd := []int{math.MinInt, -1, 0, 1, 5, 7, 12, 23, 31, 59, 60, math.MaxInt}
	list := func(l []int) []int {
		if r.Intn(12) == 0 {
			return append(l, odd[r.Intn(len(odd))])
		}
		return l
	}
	for range 3000 {
		c := drawn(r)
		c.Minutes, c.Hours, c.Months, c.Days = list(c.Minutes), list(c.Hours), list(c.Months), list(c.Days)
		c.Near, c.Weekdays, c.LastOf = list(c.Near), list(c.Weekdays), list(c.LastOf)
		if r.Intn(12) == 0 {
			c.Nth = append(c.Nth, api.Nth{N: odd[r.Intn(len(odd))], Day: odd[r.Intn(len(odd))]})
		}
		x := api.Local(odd[r.Intn(len(odd))])
		text, told := cron.Text(c)
		if (told != nil) != (cron.Check(c) != nil) || told != nil && text != "" {
			t.Errorf("7.2: Text(%+v): %q, %v", c, text, told)
		}
		ok, err := cron.Fits(c, x)
		if (told != nil || x < firstTime || x > lastTime) != (err != nil) || err != nil && ok {
			t.Errorf("7.3: Fits(%+v, %d): %t, %v", c, x, ok, err)
		}
		next, err := cron.Next(c, x)
		if err == nil && (told != nil || next <= x || next%60 != 0) || err != nil && next != 0 {
			t.Errorf("7.3: Next(%+v, %d): %d, %v", c, x, next, err)
		}
	}
}

// somewhere draws a time: at one of the ends, or of the years in which months change in all ways.
func somewhere(r *rand.Rand) api.Local {
	switch r.Intn(6) {
	case 0:
		return firstTime + api.Local(r.Intn(800*api.Daily))
	case 1:
		return lastTime - api.Local(r.Intn(800*api.Daily))
	case 2:
		return firstTime + api.Local(r.Intn(2*api.MaxDay))*api.Daily
	}
	return local("1890-01-01T00:00:00") + api.Local(r.Intn(260*365*api.Daily))
}

func TestDrawnFits(t *testing.T) {
	r := rand.New(rand.NewSource(74))
	for range 300 {
		c := drawn(r)
		x := somewhere(r)
		for range 70 {
			x = min(x+api.Local(r.Intn(2*api.Daily)), lastTime)
			// The model's minutes would seldom be those of the Cron.
			if r.Intn(2) == 0 {
				x = api.Local(dayOf(x)*api.Daily + c.Hours[0]*3600 + c.Minutes[0]*60 + r.Intn(60))
			}
			ok, err := cron.Fits(c, x)
			wantValue(t, at("7.3: Fits(%+v, %s)", c, shown(x)), ok, err, modelFits(c, x))
		}
	}
}

func TestDrawnNext(t *testing.T) {
	r := rand.New(rand.NewSource(75))
	for range 400 {
		c := drawn(r)
		x := somewhere(r)
		for range 4 {
			next, err := cron.Next(c, x)
			want, ok := modelNext(c, x)
			if !ok {
				wantError(t, at("7.3: Next(%+v, %s)", c, shown(x)), next, err, api.ErrNone)
				break
			}
			wantValue(t, at("7.3: Next(%+v, %s)", c, shown(x)), next, err, want)
			x = want + api.Local(r.Intn(3))*api.Local(r.Intn(40*api.Daily))
			if x > lastTime {
				break
			}
		}
	}
}
