package rule_test

import (
	"math"
	"testing"

	"almanac/api"
	"almanac/rule"
)

// Promise 6.1.

// wantAllSay says whether all calls that are given a rule tell this error, and nothing else.
func wantAllSay(t *testing.T, r api.Rule, want api.Errno) {
	t.Helper()
	if err := rule.Check(r); err != want {
		t.Errorf("6.1: Check(%+v): %v; error %d is wanted, without a place", r, err, want)
	}
	// What Check says is told ahead of what is wrong with the start.
	for _, start := range []api.Local{0, math.MaxInt} {
		seq, err := rule.All(r, start)
		if seq != nil || err != want {
			t.Errorf("6.4: All(%+v, %d): %v; error %d is wanted", r, start, err, want)
		}
		next, err := rule.Next(r, start, 0)
		wantError(t, at("6.4: Next(%+v, %d)", r, start), next, err, want)
		l, err := rule.Between(r, start, 0, 1)
		wantError(t, at("6.4: Between(%+v, %d)", r, start), l, err, want)
	}
	text, err := rule.Text(r)
	wantError(t, at("6.5: Text(%+v)", r), text, err, want)
}

func TestNumbersOfRules(t *testing.T) {
	for _, c := range []struct {
		put         func(r *api.Rule, n int)
		least, most int
		want        api.Errno
	}{
		{func(r *api.Rule, n int) { r.Cal = api.Cal(n) }, 1, 10, api.ErrCal},
		{func(r *api.Rule, n int) { r.Freq = n }, 1, 5, api.ErrArg},
		{func(r *api.Rule, n int) { r.Every = n }, 1, 1000, api.ErrArg},
		{func(r *api.Rule, n int) { r.Count = n }, 0, 10_000, api.ErrArg},
		{func(r *api.Rule, n int) { r.First = n }, 1, 7, api.ErrArg},
	} {
		for n := c.least - 3; n <= c.most+3; n++ {
			r := with(func(r *api.Rule) { c.put(r, n) })
			if n < c.least || n > c.most {
				wantAllSay(t, r, c.want)
			} else if err := rule.Check(r); err != nil {
				t.Errorf("6.1: Check(%+v): %v", r, err)
			}
		}
		for _, n := range []int{math.MinInt, math.MaxInt} {
			wantAllSay(t, with(func(r *api.Rule) { c.put(r, n) }), c.want)
		}
	}
}

func TestUntilOfRules(t *testing.T) {
	for _, u := range []api.Local{firstTime, -1, 0, 1, lastTime} {
		if err := rule.Check(with(func(r *api.Rule) { r.Ends, r.Until = true, u })); err != nil {
			t.Errorf("6.1: Until %d: %v", u, err)
		}
		if u != 0 {
			wantAllSay(t, with(func(r *api.Rule) { r.Until = u }), api.ErrArg)
		}
	}
	for _, u := range noTimes {
		wantAllSay(t, with(func(r *api.Rule) { r.Ends, r.Until = true, u }), api.ErrRange)
		wantAllSay(t, with(func(r *api.Rule) { r.Until = u }), api.ErrArg)
	}
}

func TestNumbersInLists(t *testing.T) {
	for i, c := range []struct{ least, most int }{{1, 13}, {-53, 53}, {-385, 385}, {-31, 31}, {0, 23}, {0, 59}, {0, 59}, {-400, 400}} {
		for n := c.least - 3; n <= c.most+3; n++ {
			r := with(func(r *api.Rule) { r.Freq = api.Yearly; *lists(r)[i] = []int{c.most, n, c.most} })
			if n < c.least || n > c.most || n == 0 && c.least < 0 {
				wantAllSay(t, r, api.ErrArg)
			} else if err := rule.Check(r); err != nil {
				t.Errorf("6.1: Check(%+v): %v", r, err)
			}
		}
		for _, n := range []int{math.MinInt, math.MaxInt} {
			wantAllSay(t, with(func(r *api.Rule) { *lists(r)[i] = []int{n} }), api.ErrArg)
		}
	}
}

func TestLongLists(t *testing.T) {
	for i := range lists(&api.Rule{}) {
		for long, want := range map[int]api.Errno{1: api.OK, 60: api.OK, 61: api.ErrLimit, 1000: api.ErrLimit} {
			r := with(func(r *api.Rule) { r.Freq = api.Yearly })
			for range long {
				*lists(&r)[i] = append(*lists(&r)[i], 1)
			}
			if err := rule.Check(r); api.Tell(err) != want {
				t.Errorf("6.1: Check of list %d with %d numbers: %v; error %d is wanted", i, long, err, want)
			}
		}
	}
	for long, want := range map[int]api.Errno{60: api.OK, 61: api.ErrLimit} {
		r := with(func(r *api.Rule) { r.Days = make([]api.Nth, long) })
		for i := range r.Days {
			r.Days[i].Day = 7
		}
		if err := rule.Check(r); api.Tell(err) != want {
			t.Errorf("6.1: Check of %d Days: %v; error %d is wanted", long, err, want)
		}
	}
}

func TestTimesOfADay(t *testing.T) {
	for _, c := range []struct {
		freq, hours, minutes, seconds int
		want                          api.Errno
	}{
		{api.EachDay, 0, 0, 0, api.OK},
		{api.EachDay, 20, 10, 0, api.OK},
		{api.EachDay, 20, 10, 1, api.OK},
		{api.EachDay, 20, 0, 10, api.OK},
		{api.EachDay, 0, 20, 10, api.OK},
		{api.EachDay, 3, 67 - 7, 1, api.OK},
		{api.EachDay, 0, 50, 4, api.OK},
		{api.EachDay, 3, 50, 2, api.ErrLimit},
		{api.Weekly, 3, 0, 60, api.OK},
		{api.Weekly, 4, 0, 51, api.ErrLimit},
		{api.Yearly, 0, 51, 4, api.ErrLimit},
		{api.Monthly, 60, 60, 60, api.ErrLimit},
		{api.Hourly, 0, 8, 0, api.OK},
		{api.Hourly, 0, 0, 8, api.OK},
		{api.Hourly, 0, 4, 2, api.OK},
		{api.Hourly, 0, 9, 0, api.ErrLimit},
		{api.Hourly, 0, 3, 3, api.ErrLimit},
		{api.Hourly, 1, 9, 0, api.ErrLimit}, // the hours of what comes by hours are 24, whichever are told
		{api.Hourly, 60, 8, 0, api.OK},
	} {
		r := with(func(r *api.Rule) {
			r.Freq = c.freq
			r.Hours, r.Minutes, r.Seconds = make([]int, c.hours), make([]int, c.minutes), make([]int, c.seconds)
		})
		if c.want != api.OK {
			wantAllSay(t, r, c.want)
		} else if err := rule.Check(r); err != nil {
			t.Errorf("6.1: Check(%+v): %v", r, err)
		}
	}
}

func TestDaysOfRules(t *testing.T) {
	put := func(n, day int) api.Rule {
		return with(func(r *api.Rule) { r.Freq, r.Days = api.Monthly, []api.Nth{{Day: 1}, {N: n, Day: day}} })
	}
	for n := -56; n <= 56; n++ {
		for day := -2; day <= 10; day++ {
			if n < -53 || n > 53 || day < 1 || day > 7 {
				wantAllSay(t, put(n, day), api.ErrArg)
			} else if err := rule.Check(put(n, day)); err != nil {
				t.Errorf("6.1: N %d of Day %d: %v", n, day, err)
			}
		}
	}
	for _, n := range []int{math.MinInt, math.MaxInt} {
		wantAllSay(t, put(n, 1), api.ErrArg)
		wantAllSay(t, put(1, n), api.ErrArg)
	}
}

func TestWhatGoesTogether(t *testing.T) {
	const first, last = int(api.Gregorian), int(api.Egyptian)
	for cal := first; cal <= last; cal++ {
		for freq := api.Hourly; freq <= api.Yearly; freq++ {
			for i, c := range []struct {
				change func(r *api.Rule)
				may    bool
			}{
				{func(r *api.Rule) { r.Weeks = []int{1} }, freq == api.Yearly && cal == first},
				{func(r *api.Rule) { r.YearDays = []int{1} }, freq == api.Yearly},
				{func(r *api.Rule) { r.MonthDays = []int{1} }, freq != api.Weekly},
				{func(r *api.Rule) { r.Days = []api.Nth{{Day: 1}} }, true},
				{func(r *api.Rule) { r.Days = []api.Nth{{Day: 1}, {N: -1, Day: 1}} }, freq == api.Monthly || freq == api.Yearly},
				{func(r *api.Rule) { r.Weeks, r.Days = []int{1}, []api.Nth{{Day: 1}} }, freq == api.Yearly && cal == first},
				{func(r *api.Rule) { r.Weeks, r.Days = []int{1}, []api.Nth{{Day: 1}, {N: 1, Day: 1}} }, false},
				{func(r *api.Rule) { r.Months, r.Places, r.Hours = []int{1}, []int{1}, []int{1} }, true},
			} {
				r := with(func(r *api.Rule) { r.Cal, r.Freq = api.Cal(cal), freq; c.change(r) })
				if !c.may {
					wantAllSay(t, r, api.ErrState)
				} else if err := rule.Check(r); err != nil {
					t.Errorf("6.1: case %d: Check(%+v): %v", i, r, err)
				}
			}
		}
	}
}

// TestOrderOfErrors: of what is wrong the one told first is answered: each of these makes a rule wrong in one way more, and is told ahead of those that stand before it.
func TestOrderOfErrors(t *testing.T) {
	r := daily()
	for _, c := range []struct {
		change func()
		want   api.Errno
	}{
		{func() { r.Weeks = []int{1} }, api.ErrState},
		{func() { r.Days = []api.Nth{{N: 54, Day: 1}} }, api.ErrArg},
		{func() { r.Minutes, r.Seconds = make([]int, 20), make([]int, 20) }, api.ErrLimit},
		{func() { r.Places = []int{0} }, api.ErrArg},
		{func() { r.Days = make([]api.Nth, 61) }, api.ErrLimit},
		{func() { r.Days, r.Months = nil, make([]int, 61) }, api.ErrLimit},
		{func() { r.Ends, r.Until = true, lastTime+1 }, api.ErrRange},
		{func() { r.Ends = false }, api.ErrArg},
		{func() { r.Cal = 11 }, api.ErrCal},
	} {
		c.change()
		wantAllSay(t, r, c.want)
	}
	r = with(func(r *api.Rule) { r.First, r.Ends, r.Until = 8, true, lastTime+1 })
	wantAllSay(t, r, api.ErrArg)
	wantAllSay(t, api.Rule{}, api.ErrCal)
}
