package work_test

import (
	"math"
	"math/rand"
	"testing"

	"almanac/api"
	"almanac/work"
)

// Promise 8.4.

func TestBetween(t *testing.T) {
	h := week(office(), ever(api.Holiday{Kind: api.OnWest, Offset: 1}))
	for _, c := range []struct {
		from, to string
		want     int
	}{
		{"2024-07-08T00:00:00", "2024-07-09T00:00:00", 7 * hour},
		{"2024-07-08T09:00:00", "2024-07-08T17:00:00", 7 * hour},
		{"2024-07-08T08:59:59", "2024-07-08T09:00:00", 0},
		{"2024-07-08T08:59:59", "2024-07-08T09:00:01", 1},
		{"2024-07-08T11:59:59", "2024-07-08T12:00:01", 1},
		{"2024-07-08T11:59:59", "2024-07-08T13:00:01", 2},
		{"2024-07-08T12:00:00", "2024-07-08T13:00:00", 0},
		{"2024-07-08T10:00:30", "2024-07-08T10:00:30", 0},
		{"2024-07-08T10:00:30", "2024-07-08T10:00:31", 1},
		{"2024-07-08T10:30:00", "2024-07-08T14:15:07", 9907},
		{"2024-07-12T16:00:00", "2024-07-15T10:00:00", 2 * hour},
		{"2024-07-13T00:00:00", "2024-07-15T00:00:00", 0},
		{"2024-03-29T16:59:00", "2024-04-02T09:01:00", 120},
		{"2024-07-08T00:00:00", "2024-07-15T00:00:00", 35 * hour},
		{"0002-01-01T00:00:00", "0002-01-07T23:59:59", 35 * hour},
	} {
		got, err := work.Between(h, local(c.from), local(c.to))
		wantValue(t, at("8.4: Between(%s, %s)", c.from, c.to), got, err, c.want)
	}
	got, err := work.Between(always(), local("2024-02-28T00:00:00"), local("2024-03-01T00:00:01"))
	wantValue(t, at("8.4: Between of days without a pause"), got, err, 2*api.Daily+1)
}

// TestOrderOfBetween: of from and to the errors are told in their order.
func TestOrderOfBetween(t *testing.T) {
	all := always()
	far := api.Local(4001) * api.Daily
	for _, c := range []struct {
		from, to api.Local
		want     api.Errno
	}{
		{math.MinInt, 0, api.ErrRange}, {math.MaxInt, 0, api.ErrRange}, {firstTime - 1, 0, api.ErrRange}, {lastTime + 1, 0, api.ErrRange},
		{firstOfAll - 1, 0, api.ErrRange}, {endOfAll, endOfAll - 1, api.ErrRange}, {endOfAll, endOfAll, api.ErrRange}, {firstOfAll - 1, firstOfAll, api.ErrRange},
		{0, math.MinInt, api.ErrRange}, {0, firstTime - 1, api.ErrRange}, {0, lastTime + 1, api.ErrRange}, {0, math.MaxInt, api.ErrRange},
		{0, -1, api.ErrOrder}, {1, 0, api.ErrOrder}, {0, -far, api.ErrOrder}, {endOfAll - 1, firstOfAll, api.ErrOrder}, {0, firstTime, api.ErrOrder}, {firstOfAll, firstOfAll - 1, api.ErrOrder},
		{0, far, api.ErrRange}, {api.Daily - 1, far, api.ErrRange}, {firstOfAll, endOfAll - 1, api.ErrRange},
		{endOfAll - 1, endOfAll, api.ErrRange}, {endOfAll - 1, lastTime, api.ErrRange}, {0, endOfAll, api.ErrRange},
	} {
		got, err := work.Between(all, c.from, c.to)
		wantError(t, at("8.4: Between(%d, %d)", c.from, c.to), got, err, c.want)
	}
	for _, c := range []struct {
		from, to api.Local
		want     int
	}{
		{0, far - 1, 4001*api.Daily - 1},
		{api.Daily - 1, far - 1, 4000 * api.Daily},
		{firstOfAll, firstOfAll + 1, 1},
		{endOfAll - 1, endOfAll - 1, 0},
		{endOfAll - api.Daily, endOfAll - 1, api.Daily - 1},
	} {
		got, err := work.Between(all, c.from, c.to)
		wantValue(t, at("8.4: Between(%d, %d)", c.from, c.to), got, err, c.want)
	}
}

// wantAfter says whether so many seconds of work have passed at a time.
func wantAfter(t *testing.T, h api.Hours, from string, n int, want string) {
	t.Helper()
	got, err := work.After(h, local(from), n)
	wantValue(t, at("8.4: After(%s, %d)", from, n), shown(got), err, shown(local(want)))
}

func TestAfter(t *testing.T) {
	h := week(office(), ever(api.Holiday{Kind: api.OnWest, Offset: 1}))
	wantAfter(t, h, "2024-03-31T02:30:00", 8*hour, "2024-04-03T10:00:00")
	wantAfter(t, h, "2024-03-31T02:30:00", 0, "2024-03-31T02:30:00")
	wantAfter(t, h, "2024-07-08T09:00:00", 3*hour, "2024-07-08T12:00:00")
	wantAfter(t, h, "2024-07-08T09:00:00", 3*hour+1, "2024-07-08T13:00:01")
	wantAfter(t, h, "2024-07-08T09:00:00", 7*hour, "2024-07-08T17:00:00")
	wantAfter(t, h, "2024-07-08T09:00:00", 7*hour+1, "2024-07-09T09:00:01")
	wantAfter(t, h, "2024-07-08T08:59:59", 1, "2024-07-08T09:00:01")
	wantAfter(t, h, "2024-07-08T11:59:59", 1, "2024-07-08T12:00:00")
	wantAfter(t, h, "2024-07-08T12:00:00", 1, "2024-07-08T13:00:01")
	wantAfter(t, h, "2024-07-08T18:00:00", 1, "2024-07-09T09:00:01")
	wantAfter(t, h, "2024-07-08T18:00:00", 0, "2024-07-08T18:00:00")
	wantAfter(t, h, "2024-07-12T16:59:30", 31, "2024-07-15T09:00:01")
	wantAfter(t, h, "2024-07-08T10:00:30", 35*hour, "2024-07-15T10:00:30")
	all := always(ever(api.Holiday{Kind: api.OnWest, Offset: 1}))
	wantAfter(t, all, "2024-07-08T10:00:30", 14*hour-30, "2024-07-09T00:00:00")
	wantAfter(t, all, "2024-07-08T10:00:30", 14*hour-29, "2024-07-09T00:00:01")
	// Work up to a midnight has passed at it, whatever the day behind it is.
	wantAfter(t, all, "2024-03-31T10:00:00", 14*hour, "2024-04-01T00:00:00")
	wantAfter(t, all, "2024-03-31T10:00:00", 14*hour+1, "2024-04-02T00:00:01")
	wantAfter(t, api.Hours{}, "2024-03-31T10:00:00", 0, "2024-03-31T10:00:00")
}

func TestAfterOfWhatIsNotThere(t *testing.T) {
	all := always()
	for _, from := range noTimes {
		for _, n := range []int{math.MinInt, -1, 0, 1} {
			got, err := work.After(all, from, n)
			wantError(t, at("8.4: After(%d, %d)", from, n), got, err, api.ErrRange)
		}
	}
	for _, from := range []api.Local{firstOfAll, 0, endOfAll - 1} {
		for _, n := range []int{math.MinInt, -1} {
			got, err := work.After(all, from, n)
			wantError(t, at("8.4: After(%d, %d)", from, n), got, err, api.ErrArg)
		}
	}
}

// TestAfterMostDays: a time is of a day up to the 4000th behind the one asked of; ahead of that, the years may end.
func TestAfterMostDays(t *testing.T) {
	all, none := always(), api.Hours{}
	for _, c := range []struct {
		h    api.Hours
		from api.Local
		n    int
		want api.Local
	}{
		{all, 0, 4000 * api.Daily, 4000 * api.Daily},
		{all, 0, 4001*api.Daily - 1, 4001*api.Daily - 1},
		{all, api.Daily - 1, 4000 * api.Daily, 4001*api.Daily - 1},
		{all, endOfAll - 1, 0, endOfAll - 1},
		{all, endOfAll - 2, 1, endOfAll - 1},
		{all, firstOfAll, 1, firstOfAll + 1},
		{none, 12345, 0, 12345},
	} {
		got, err := work.After(c.h, c.from, c.n)
		wantValue(t, at("8.4: After(%d, %d)", c.from, c.n), got, err, c.want)
	}
	for _, c := range []struct {
		h    api.Hours
		from api.Local
		n    int
		want api.Errno
	}{
		{all, 0, 4001 * api.Daily, api.ErrNone},
		{all, api.Daily - 1, 4000*api.Daily + 1, api.ErrNone},
		{all, 0, math.MaxInt, api.ErrNone},
		{none, 0, 1, api.ErrNone},
		{all, endOfAll - 1, 1, api.ErrRange},
		{all, endOfAll - 1, math.MaxInt, api.ErrRange},
		{all, endOfAll - 4000*api.Daily - 1, 4000*api.Daily + 1, api.ErrNone},
		{all, endOfAll - 4000*api.Daily, 4000 * api.Daily, api.ErrRange},
		{all, endOfAll - 4001*api.Daily, 4001 * api.Daily, api.ErrNone},
		{none, endOfAll - 4000*api.Daily, 1, api.ErrRange},
		{none, endOfAll - 4001*api.Daily, 1, api.ErrNone},
	} {
		got, err := work.After(c.h, c.from, c.n)
		wantError(t, at("8.4: After(%d, %d)", c.from, c.n), got, err, c.want)
	}
	h, from := onlyThursday(), local("2024-02-29T09:00:00")
	for off, want := range map[api.Local]api.Errno{0: api.OK, 1: api.OK, 4000: api.OK, 4001: api.ErrNone, -1: api.ErrNone} {
		got, err := work.After(h, from-off*api.Daily, 7*hour)
		if want == api.OK {
			wantValue(t, at("8.4: After, %d days ahead", off), got, err, from+8*hour)
		} else {
			wantError(t, at("8.4: After, %d days ahead", off), got, err, want)
		}
		got, err = work.After(h, from-off*api.Daily, 7*hour+1)
		wantError(t, at("8.4: After of more, %d days ahead", off), got, err, api.ErrNone)
	}
}

// TestDrawnSeconds: seconds are those of the model, and those from a time up to After of it are those that were asked for.
func TestDrawnSeconds(t *testing.T) {
	r := rand.New(rand.NewSource(84))
	for range 60 {
		year := someYear(r)
		h := drawnHours(r, year)
		m := modelOf(h, year)
		for range 12 {
			from := dayIn(r, year)*api.Daily + r.Intn(api.Daily)
			if r.Intn(3) == 0 {
				from -= from % 60
			}
			to := min(from+r.Intn(3)*r.Intn(40*api.Daily)+r.Intn(3), int(endOfAll)-1)
			got, err := work.Between(h, api.Local(from), api.Local(to))
			wantValue(t, at("8.4: Between(%+v, %d, %d)", h, from, to), got, err, m.between(from, to))
			n := []int{0, 1, got, got + 1, r.Intn(100) * hour, r.Intn(400_000)}[r.Intn(6)]
			wantPassed(t, m, from, n)
		}
	}
}

// wantPassed says whether After answers what the model does, and Between from the time up to it.
func wantPassed(t *testing.T, m model, from, n int) {
	t.Helper()
	got, err := work.After(m.hours, api.Local(from), n)
	want, wrong := m.after(from, n)
	if int(got) != want || err != wrong {
		t.Errorf("8.4: After(%+v, %d, %d): %d, %v; %d, %v is wanted", m.hours, from, n, got, err, want, wrong)
	}
	if err != nil {
		return
	}
	passed, err := work.Between(m.hours, api.Local(from), got)
	wantValue(t, at("8.4: Between(%+v, %d, %d)", m.hours, from, got), passed, err, n)
	if n > 0 {
		passed, err := work.Between(m.hours, api.Local(from), got-1)
		wantValue(t, at("8.4: Between(%+v, %d, %d), a second less", m.hours, from, got-1), passed, err, n-1)
	}
}

// TestWhatever: whatever is asked, there is an answer, and with an error nothing else.
func TestWhatever(t *testing.T) {
	r := rand.New(rand.NewSource(85))
	odd := []int{math.MinInt, math.MinInt + 1, -api.MaxTime, int(firstTime), int(firstOfAll), firstDay, -4001, -1, 0, 1, 7, 13, 31, 100, 1440, 4000, 9999, lastDay, int(endOfAll), int(lastTime), math.MaxInt - 1, math.MaxInt}
	some := func() int { return odd[r.Intn(len(odd))] }
	for range 2000 {
		h := drawnHours(r, 1970)
		if len(h.Holidays) > 0 && r.Intn(2) == 0 {
			x := &h.Holidays[r.Intn(len(h.Holidays))]
			*[]*int{&x.Kind, &x.Month, &x.Day, &x.N, &x.Weekday, &x.Offset, &x.From, &x.To, &x.Moves}[r.Intn(9)] = some()
		}
		if r.Intn(4) == 0 {
			h.Week[r.Intn(7)] = []api.Span{{From: some(), To: some()}}
		}
		wrong := work.Check(h)
		a, b := some(), some()
		wantZero := func(call string, got int, err error) {
			if wrong != nil && err != wrong || err != nil && got != 0 {
				t.Errorf("%s(%+v, %d, %d): %d, %v; Check says %v", call, h, a, b, got, err, wrong)
			}
		}
		l, err := work.Holidays(h, a)
		wantZero("Holidays", len(l), err)
		spans, err := work.Day(h, a)
		wantZero("Day", len(spans), err)
		n, err := work.Add(h, a, b)
		wantZero("Add", n, err)
		n, err = work.Count(h, a, b)
		wantZero("Count", n, err)
		n, err = work.Between(h, api.Local(a), api.Local(b))
		wantZero("Between", n, err)
		after, err := work.After(h, api.Local(a), b)
		wantZero("After", int(after), err)
	}
}
