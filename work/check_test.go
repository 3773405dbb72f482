package work_test

import (
	"math"
	"testing"

	"almanac/api"
	"almanac/work"
)

// Promise 8.1.

// wantMay says whether hours may be.
func wantMay(t *testing.T, h api.Hours) {
	t.Helper()
	if err := work.Check(h); err != nil {
		t.Errorf("8.1: Check(%+v): %v", h, err)
	}
}

// wantOf says whether hours may be or, if an error is wanted, all calls tell that.
func wantOf(t *testing.T, h api.Hours, want api.Errno) {
	t.Helper()
	if want == api.OK {
		wantMay(t, h)
	} else {
		wantAllSay(t, h, want)
	}
}

func TestMinutes(t *testing.T) {
	for i := range 7 {
		for _, c := range []struct {
			l    []api.Span
			want api.Errno
		}{
			{nil, api.OK},
			{[]api.Span{}, api.OK},
			{[]api.Span{{From: 0, To: 1440}}, api.OK},
			{[]api.Span{{From: 0, To: 1}}, api.OK},
			{[]api.Span{{From: 1439, To: 1440}}, api.OK},
			{[]api.Span{{From: 0, To: 60}, {From: 61, To: 90}, {From: 1000, To: 1440}}, api.OK},
			{[]api.Span{{}}, api.ErrArg},
			{[]api.Span{{From: 60, To: 60}}, api.ErrArg},
			{[]api.Span{{From: 61, To: 60}}, api.ErrArg},
			{[]api.Span{{From: 1440, To: 1440}}, api.ErrArg},
			{[]api.Span{{From: -1, To: 60}}, api.ErrArg},
			{[]api.Span{{From: 0, To: 1441}}, api.ErrArg},
			{[]api.Span{{From: 1440, To: 1441}}, api.ErrArg},
			{[]api.Span{{From: -2, To: -1}}, api.ErrArg},
			{[]api.Span{{From: math.MinInt, To: math.MaxInt}}, api.ErrArg},
			{[]api.Span{{From: 0, To: 60}, {From: 60, To: 90}}, api.ErrOrder},
			{[]api.Span{{From: 0, To: 60}, {From: 59, To: 90}}, api.ErrOrder},
			{[]api.Span{{From: 60, To: 90}, {From: 0, To: 30}}, api.ErrOrder},
			{[]api.Span{{From: 60, To: 90}, {From: 60, To: 90}}, api.ErrOrder},
			// Span by span.
			{[]api.Span{{From: 60, To: 90}, {From: 30, To: 30}}, api.ErrArg},
			{[]api.Span{{From: 60, To: 90}, {From: 0, To: 30}, {From: 30, To: 30}}, api.ErrOrder},
			{[]api.Span{{From: 60, To: 60}, {From: 0, To: 30}}, api.ErrArg},
		} {
			h := week(office())
			h.Week[i] = c.l
			wantOf(t, h, c.want)
		}
	}
}

// spans are so many, which may be.
func spans(many int) []api.Span {
	var l []api.Span
	for i := range many {
		l = append(l, api.Span{From: 2 * i, To: 2*i + 1})
	}
	return l
}

func TestLists(t *testing.T) {
	for i := range 7 {
		var h api.Hours
		h.Week[i] = spans(60)
		wantMay(t, h)
		h.Week[i] = spans(61)
		wantAllSay(t, h, api.ErrLimit)
		h.Week[i] = make([]api.Span, 61) // wrong ones, too
		wantAllSay(t, h, api.ErrLimit)
	}
	x := ever(api.Holiday{Kind: api.OnWest})
	for many, want := range map[int]api.Errno{0: api.OK, 1: api.OK, 60: api.OK, 61: api.ErrLimit, 500: api.ErrLimit} {
		var h api.Hours
		for range many {
			h.Holidays = append(h.Holidays, x)
		}
		wantOf(t, h, want)
	}
	wantAllSay(t, api.Hours{Holidays: make([]api.Holiday, 61)}, api.ErrLimit)
}

// TestOrderOfErrors: weekday by weekday, then the holidays, one by one.
func TestOrderOfErrors(t *testing.T) {
	var h api.Hours
	h.Holidays = []api.Holiday{ever(api.Holiday{Kind: api.OnEast}), ever(api.Holiday{Kind: api.OnDate, Month: 1, Day: 1}), {}}
	wantAllSay(t, h, api.ErrCal)
	h.Holidays[0].Moves = 3
	wantAllSay(t, h, api.ErrArg)
	h.Holidays = make([]api.Holiday, 61)
	wantAllSay(t, h, api.ErrLimit)
	h.Week[6] = []api.Span{{}}
	wantAllSay(t, h, api.ErrArg)
	h.Week[5] = []api.Span{{From: 1, To: 2}, {From: 2, To: 3}}
	wantAllSay(t, h, api.ErrOrder)
	h.Week[4] = spans(61)
	wantAllSay(t, h, api.ErrLimit)
	h.Week[0] = []api.Span{{}}
	wantAllSay(t, h, api.ErrArg)
}

// kinds are holidays that may be, one of each kind.
func kinds() []api.Holiday {
	return []api.Holiday{
		{Kind: api.OnDate, Cal: api.Hebrew, Month: 13, Day: 31, From: 1, To: 1},
		{Kind: api.OnNth, Month: 12, N: -5, Weekday: 7, From: 9999, To: 9999, Moves: api.Monday},
		{Kind: api.OnWest, Offset: -100, From: 1, To: 9999, Moves: api.Nearest},
		{Kind: api.OnEast, Offset: 100, From: 2000, To: 2001},
	}
}

func TestHolidaysThatMayBe(t *testing.T) {
	const no, cal, arg = api.OK, api.ErrCal, api.ErrArg
	for i, x := range kinds() {
		wantMay(t, api.Hours{Holidays: []api.Holiday{x}})
		for _, c := range []struct {
			put         func(x *api.Holiday, n int)
			least, most [4]int // of each kind; both 0, if it says nothing there
			want        [4]api.Errno
		}{
			{func(x *api.Holiday, n int) { x.Moves = n }, [4]int{0, 0, 0, 0}, [4]int{2, 2, 2, 2}, [4]api.Errno{arg, arg, arg, arg}},
			{func(x *api.Holiday, n int) { x.Cal = api.Cal(n) }, [4]int{1, 0, 0, 0}, [4]int{10, 0, 0, 0}, [4]api.Errno{cal, arg, arg, arg}},
			{func(x *api.Holiday, n int) { x.Month = n }, [4]int{1, 1, 0, 0}, [4]int{13, 12, 0, 0}, [4]api.Errno{arg, arg, arg, arg}},
			{func(x *api.Holiday, n int) { x.Day = n }, [4]int{1, 0, 0, 0}, [4]int{31, 0, 0, 0}, [4]api.Errno{arg, arg, arg, arg}},
			{func(x *api.Holiday, n int) { x.N = n }, [4]int{0, -5, 0, 0}, [4]int{0, 5, 0, 0}, [4]api.Errno{arg, arg, arg, arg}},
			{func(x *api.Holiday, n int) { x.Weekday = n }, [4]int{0, 1, 0, 0}, [4]int{0, 7, 0, 0}, [4]api.Errno{arg, arg, arg, arg}},
			{func(x *api.Holiday, n int) { x.Offset = n }, [4]int{0, 0, -100, -100}, [4]int{0, 0, 100, 100}, [4]api.Errno{arg, arg, arg, arg}},
			{func(x *api.Holiday, n int) { x.From, x.To = n, n }, [4]int{1, 1, 1, 1}, [4]int{9999, 9999, 9999, 9999}, [4]api.Errno{arg, arg, arg, arg}},
			{func(x *api.Holiday, n int) { x.From, x.To = 1, n }, [4]int{1, 1, 1, 1}, [4]int{9999, 9999, 9999, 9999}, [4]api.Errno{arg, arg, arg, arg}},
			{func(x *api.Holiday, n int) { x.From, x.To = n, 9999 }, [4]int{1, 1, 1, 1}, [4]int{9999, 9999, 9999, 9999}, [4]api.Errno{arg, arg, arg, arg}},
			{func(x *api.Holiday, n int) { x.From, x.To = 2000, n }, [4]int{2000, 2000, 2000, 2000}, [4]int{9999, 9999, 9999, 9999}, [4]api.Errno{arg, arg, arg, arg}},
		} {
			least, most := c.least[i], c.most[i]
			for _, n := range []int{math.MinInt, least - 2, least - 1, least, least + 1, -1, 0, 1, (least + most) / 2, most - 1, most, most + 1, most + 2, math.MaxInt} {
				x := x
				c.put(&x, n)
				want := c.want[i]
				// An N of 0 is none, where N says something.
				if n >= least && n <= most && (n != 0 || least != -5) {
					want = no
				}
				wantOf(t, api.Hours{Holidays: []api.Holiday{x}}, want)
			}
		}
	}
}

func TestKinds(t *testing.T) {
	for _, kind := range []int{math.MinInt, -1, 0, 5, 6, math.MaxInt} {
		for _, x := range kinds() {
			x.Kind = kind
			wantAllSay(t, api.Hours{Holidays: []api.Holiday{x}}, api.ErrArg)
		}
		wantAllSay(t, api.Hours{Holidays: []api.Holiday{{Kind: kind, From: 1, To: 1}}}, api.ErrArg)
	}
}

// TestOrderInHolidays: kind, moves and years ahead of the calendar, and that ahead of the rest.
func TestOrderInHolidays(t *testing.T) {
	x := api.Holiday{Kind: api.OnDate, Cal: 11, Month: 99, Day: 99, N: 9, Weekday: 9, Offset: 9, From: 1, To: 1}
	wantAllSay(t, api.Hours{Holidays: []api.Holiday{x}}, api.ErrCal)
	for _, change := range []func(x *api.Holiday){
		func(x *api.Holiday) { x.Kind = 5 },
		func(x *api.Holiday) { x.Moves = -1 },
		func(x *api.Holiday) { x.From = 0 },
		func(x *api.Holiday) { x.From = 2 },
		func(x *api.Holiday) { x.To = 10_000 },
		func(x *api.Holiday) { x.Cal = api.Gregorian },
	} {
		x := x
		change(&x)
		wantAllSay(t, api.Hours{Holidays: []api.Holiday{x}}, api.ErrArg)
	}
}
