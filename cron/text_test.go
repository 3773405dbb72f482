package cron_test

import (
	"math"
	"math/rand"
	"reflect"
	"testing"

	"almanac/api"
	"almanac/cron"
)

// Promise 7.2.

// wantNone says whether all calls tell that this is nothing that Parse gives; ahead of what is wrong with the time.
func wantNone(t *testing.T, c api.Cron) {
	t.Helper()
	if err := cron.Check(c); err != api.ErrArg {
		t.Errorf("7.2: Check(%+v): %v; error 1 is wanted", c, err)
	}
	text, err := cron.Text(c)
	wantError(t, at("7.2: Text(%+v)", c), text, err, api.ErrArg)
	for _, x := range append([]api.Local{0}, noTimes...) {
		ok, err := cron.Fits(c, x)
		wantError(t, at("7.2: Fits(%+v, %d)", c, x), ok, err, api.ErrArg)
		next, err := cron.Next(c, x)
		wantError(t, at("7.2: Next(%+v, %d)", c, x), next, err, api.ErrArg)
	}
}

func TestCheckOfLists(t *testing.T) {
	for i, c := range []struct {
		put         func(c *api.Cron, l []int)
		least, most int
		mayBeEmpty  bool
	}{
		{func(c *api.Cron, l []int) { c.Minutes = l }, 0, 59, false},
		{func(c *api.Cron, l []int) { c.Hours = l }, 0, 23, false},
		{func(c *api.Cron, l []int) { c.Months = l }, 1, 12, false},
		{func(c *api.Cron, l []int) { c.Any, c.Last, c.Days = false, true, l }, 1, 31, true},
		{func(c *api.Cron, l []int) { c.Any, c.Last, c.Near = false, true, l }, 1, 31, true},
		{func(c *api.Cron, l []int) { c.AnyWeek, c.LastOf, c.Weekdays = false, []int{1}, l }, 1, 7, true},
		{func(c *api.Cron, l []int) { c.AnyWeek, c.Weekdays, c.LastOf = false, []int{1}, l }, 1, 7, true},
	} {
		list := func(l ...int) api.Cron { return with(func(x *api.Cron) { c.put(x, l) }) }
		for n := c.least; n <= c.most; n++ {
			for k := c.least; k <= c.most; k++ {
				if n >= k {
					wantNone(t, list(n, k))
				} else if err := cron.Check(list(n, k)); err != nil {
					t.Errorf("7.2: list %d of %d, %d: %v", i, n, k, err)
				}
			}
			if err := cron.Check(list(n)); err != nil {
				t.Errorf("7.2: list %d of %d: %v", i, n, err)
			}
		}
		for _, n := range []int{math.MinInt, -1, c.least - 1, c.most + 1, math.MaxInt} {
			wantNone(t, list(n))
			wantNone(t, list(c.least, n))
			wantNone(t, list(n, c.most))
		}
		wantNone(t, list(make([]int, 1000)...))
		for _, empty := range []api.Cron{list(), with(func(x *api.Cron) { c.put(x, []int{}) })} {
			if !c.mayBeEmpty {
				wantNone(t, empty)
			} else if err := cron.Check(empty); err != nil {
				t.Errorf("7.2: list %d without numbers: %v", i, err)
			}
		}
	}
}

func TestCheckOfNth(t *testing.T) {
	nth := func(l ...api.Nth) api.Cron {
		return with(func(c *api.Cron) { c.AnyWeek, c.Nth = false, l })
	}
	for n := -6; n <= 8; n++ {
		for day := -1; day <= 9; day++ {
			x := api.Nth{N: n, Day: day}
			if n < 1 || n > 5 || day < 1 || day > 7 {
				wantNone(t, nth(x))
				wantNone(t, nth(api.Nth{N: 1, Day: 1}, x))
				continue
			}
			if err := cron.Check(nth(x)); err != nil {
				t.Errorf("7.2: Nth %v: %v", x, err)
			}
			for i := range 35 {
				// By Day, then by N: in this order the numbers of both together rise.
				other := api.Nth{N: i%5 + 1, Day: i/5 + 1}
				if rises := (day-1)*5+n-1 < i; !rises {
					wantNone(t, nth(x, other))
				} else if err := cron.Check(nth(x, other)); err != nil {
					t.Errorf("7.2: Nth %v, %v: %v", x, other, err)
				}
			}
		}
	}
	for _, n := range []int{math.MinInt, math.MaxInt} {
		wantNone(t, nth(api.Nth{N: n, Day: 1}))
		wantNone(t, nth(api.Nth{N: 1, Day: n}))
	}
}

// TestCheckOfAny: where any day will do nothing else is told, and else something is.
func TestCheckOfAny(t *testing.T) {
	wantNone(t, api.Cron{})
	for _, change := range []func(c *api.Cron){
		func(c *api.Cron) { c.Any = false },
		func(c *api.Cron) { c.AnyWeek = false },
		func(c *api.Cron) { c.Any, c.AnyWeek = false, false },
		func(c *api.Cron) { c.Days = []int{1} },
		func(c *api.Cron) { c.Days = numbers(1, 31) },
		func(c *api.Cron) { c.Near = []int{1} },
		func(c *api.Cron) { c.Last = true },
		func(c *api.Cron) { c.Weekdays = []int{1} },
		func(c *api.Cron) { c.Weekdays = numbers(1, 7) },
		func(c *api.Cron) { c.LastOf = []int{1} },
		func(c *api.Cron) { c.Nth = []api.Nth{{N: 1, Day: 1}} },
		func(c *api.Cron) { c.Any, c.Weekdays = false, []int{1} },
		func(c *api.Cron) { c.AnyWeek, c.Days = false, []int{1} },
	} {
		wantNone(t, with(change))
	}
	for _, change := range []func(c *api.Cron){
		func(*api.Cron) {},
		func(c *api.Cron) { c.Any, c.Last = false, true },
		func(c *api.Cron) { c.Any, c.Near = false, []int{1} },
		func(c *api.Cron) { c.Any, c.Days = false, numbers(1, 31) },
		func(c *api.Cron) { c.AnyWeek, c.LastOf = false, []int{1} },
		func(c *api.Cron) { c.AnyWeek, c.Weekdays = false, numbers(1, 7) },
		func(c *api.Cron) {
			c.Days, c.Near, c.Weekdays, c.LastOf, c.Nth = []int{}, []int{}, []int{}, []int{}, []api.Nth{}
		},
	} {
		if err := cron.Check(with(change)); err != nil {
			t.Errorf("7.2: Check(%+v): %v", with(change), err)
		}
	}
}

func TestText(t *testing.T) {
	for text, want := range map[string]string{
		"* * * * *":                      "* * * * *",
		"0-59 0-23 * JAN-DEC *":          "* * * * *",
		"*/15 9-17/4 * FEB,4 MON-FRI":    "0,15,30,45 9,13,17 * 2,4 1,2,3,4,5",
		"1-59 1-23 */1 2-12 */1":         "1,2,3,4,5,6,7,8,9,10,11,12,13,14,15,16,17,18,19,20,21,22,23,24,25,26,27,28,29,30,31,32,33,34,35,36,37,38,39,40,41,42,43,44,45,46,47,48,49,50,51,52,53,54,55,56,57,58,59 1,2,3,4,5,6,7,8,9,10,11,12,13,14,15,16,17,18,19,20,21,22,23 1,2,3,4,5,6,7,8,9,10,11,12,13,14,15,16,17,18,19,20,21,22,23,24,25,26,27,28,29,30,31 2,3,4,5,6,7,8,9,10,11,12 1,2,3,4,5,6,7",
		"0 0 L,31W,10,1W,9 * 7L,3#2,MON": "0 0 9,10,1W,31W,L * 1,7L,3#2",
		"0 0 L * SUN#2,SUN#1,MON#5,FRIL": "0 0 L * 5L,1#5,7#1,7#2",
		"0 0 15W * 0":                    "0 0 15W * 7",
	} {
		c, err := cron.Parse(text)
		if err != nil {
			t.Fatalf("7.1: Parse(%q): %v", text, err)
		}
		got, err := cron.Text(c)
		wantValue(t, at("7.2: Text of Parse(%q)", text), got, err, want)
	}
}

// TestReadAgain: what is written is read again as it was.
func TestReadAgain(t *testing.T) {
	r := rand.New(rand.NewSource(73))
	for range 3000 {
		c := drawn(r)
		text, err := cron.Text(c)
		if err != nil {
			t.Fatalf("7.2: Text(%+v): %v", c, err)
		}
		again, err := cron.Parse(text)
		wantValue(t, at("7.2: Parse(%q)", text), again, err, c)
	}
}

// TestFreshMemory: what is handed in stays as it is, and what comes out is the caller's.
func TestFreshMemory(t *testing.T) {
	const text = "5,10 6,7 1,2W,3 2,3 1,2L,3#1"
	c, same := read(t, text), read(t, text)
	if _, err := cron.Text(c); err != nil {
		t.Error(err)
	}
	if _, err := cron.Next(c, 0); err != nil {
		t.Error(err)
	}
	if _, err := cron.Fits(c, 0); err != nil {
		t.Error(err)
	}
	if !reflect.DeepEqual(c, same) {
		t.Errorf("P4: %+v became %+v", same, c)
	}
	for _, l := range [][]int{c.Minutes, c.Hours, c.Days, c.Near, c.Months, c.Weekdays, c.LastOf} {
		for i := range l {
			l[i] = 0
		}
		_ = append(l, 0)
	}
	c.Nth[0] = api.Nth{}
	if again := read(t, text); !reflect.DeepEqual(again, same) {
		t.Errorf("P4: Parse answers %+v, then %+v", same, again)
	}
}
