package book_test

import (
	"math"
	"testing"

	"almanac/api"
	"almanac/book"
)

// Promises 10.3 and 10.4: the times of an event, and its occasions.

// wantHas says whether an event has just these of some times.
func wantHas(t *testing.T, b *book.Book, uid string, has map[string]bool) {
	t.Helper()
	for text, want := range has {
		got, err := b.Has(uid, local(text))
		wantValue(t, at("10.3: Has(%s, %s)", uid, text), got, err, want)
	}
}

func TestHas(t *testing.T) {
	e := daily("a")
	e.Out = locals("2024-03-05T09:00", "2024-03-08T10:00", "2024-03-09T10:00")
	e.In = locals("2024-03-01T08:00", "2024-03-07T09:00", "2024-03-08T10:00")
	e.Others = []api.Other{{At: local("2024-03-10T09:00"), Gone: true}, {At: local("2024-03-11T09:00"), Start: local("2024-03-11T12:00")}, {At: local("2024-03-11T10:00"), Start: local("2024-03-11T13:00")}}
	once := e
	once.Uid, once.Repeats = "once", false
	gone := api.Event{Uid: "gone", Start: local("2024-03-04T09:00"), Out: locals("2024-03-04T09:00")}
	b := bookOf(t, e, once, gone)
	always := map[string]bool{
		"2024-03-01T08:00": true, "2024-03-04T09:00": true, "2024-03-07T09:00": true,
		"2024-03-08T10:00": false, "2024-03-05T09:00": false, "2024-03-03T09:00": false, "2024-03-04T10:00": false,
		"2024-03-11T10:00": false, "2024-03-11T12:00": false, "2024-03-11T13:00": false,
	}
	wantHas(t, b, "a", always)
	wantHas(t, b, "once", always)
	wantHas(t, b, "a", map[string]bool{"2024-03-06T09:00": true, "2024-03-10T09:00": true, "2024-03-11T09:00": true, "2054-03-04T09:00": true, "2054-03-05T09:00": false})
	wantHas(t, b, "once", map[string]bool{"2024-03-06T09:00": false, "2024-03-10T09:00": false, "2024-03-11T09:00": false})
	wantHas(t, b, "gone", map[string]bool{"2024-03-04T09:00": false})
	for _, x := range append(noTimes, firstTime, lastTime) {
		got, err := b.Has("a", x)
		wantValue(t, at("10.3: Has(a, %d)", x), got, err, false)
		got, err = b.Has("x", x)
		wantError(t, at("10.3: Has(x, %d)", x), got, err, api.ErrMissing)
	}
}

// TestHasAtTheEnds: the first and the last time of all may be an event's.
func TestHasAtTheEnds(t *testing.T) {
	b := bookOf(t, api.Event{Uid: "a", Start: firstTime, In: []api.Local{lastTime}})
	for x, want := range map[api.Local]bool{firstTime: true, lastTime: true, firstTime - 1: false, lastTime + 1: false, math.MaxInt: false, math.MinInt: false} {
		got, err := b.Has("a", x)
		wantValue(t, at("10.3: Has(a, %d)", x), got, err, want)
	}
}

// TestCounted: the first so many times of a rule are an event's, wherever one asks.
func TestCounted(t *testing.T) {
	e := daily("a")
	e.Rule.Count = 10
	b := bookOf(t, e)
	wantHas(t, b, "a", map[string]bool{"2024-03-04T09:00": true, "2024-03-13T09:00": true, "2024-03-14T09:00": false})
	got, err := b.Of("a", moment("2024-03-13T00:00"), moment("2024-04-13T00:00"))
	wantOccasions(t, at("10.4: Of, behind the 9th of 10 times"), got, err, occasion(e, "2024-03-13T09:00"))
}

// occasion is one of an event of offset 0, as the event tells it.
func occasion(e api.Event, text string) api.Occasion {
	from := moment(text)
	return api.Occasion{Uid: e.Uid, At: local(text), From: from, To: from + api.Instant(e.Length), Title: e.Title, Free: e.Free}
}

// TestOf: what each of an event's times makes.
func TestOf(t *testing.T) {
	e := daily("a")
	e.Out = locals("2024-03-05T09:00")
	e.In = locals("2024-03-04T20:00", "2024-03-07T09:00")
	e.Others = []api.Other{
		{At: local("2024-03-04T20:00"), Start: local("2024-03-04T21:00"), Length: 60, Title: "late"},
		{At: local("2024-03-05T09:00"), Start: local("2024-03-05T10:00"), Title: "of a time that is out"},
		{At: local("2024-03-06T09:00"), Gone: true},
		{At: local("2024-03-07T10:00"), Start: local("2024-03-07T11:00"), Title: "of a time that is not there"},
		{At: local("2024-03-09T09:00"), Start: local("2024-03-04T05:00")},
		{At: local("2024-03-20T09:00"), Start: local("2024-03-05T05:00"), Length: 7, Title: "sooner"},
	}
	other := func(i int) api.Occasion {
		o := e.Others[i]
		return api.Occasion{Uid: "a", At: o.At, From: api.Instant(o.Start), To: api.Instant(o.Start) + api.Instant(o.Length), Title: o.Title, Free: e.Free}
	}
	for _, e.Free = range []bool{false, true} {
		b := bookOf(t, e)
		want := []api.Occasion{other(4), occasion(e, "2024-03-04T09:00"), other(0), other(5), occasion(e, "2024-03-07T09:00"), occasion(e, "2024-03-08T09:00")}
		got, err := b.Of("a", moment("2024-03-01T00:00"), moment("2024-03-10T00:00"))
		wantOccasions(t, at("10.3: Of"), got, err, want...)
		got, err = b.Between(moment("2024-03-01T00:00"), moment("2024-03-10T00:00"))
		wantOccasions(t, at("10.3: Between"), got, err, want...)
		got, err = b.Of("a", moment("2024-03-20T00:00"), moment("2024-03-21T00:00"))
		wantOccasions(t, at("10.3: Of, where a time is told to be another day"), got, err)
	}
}

// TestEdges: which occasions a window has.
func TestEdges(t *testing.T) {
	e := api.Event{Uid: "a", Start: 1000, Length: 100, Title: "long"}
	point := api.Event{Uid: "b", Start: 1000, Title: "point"}
	long := api.Occasion{Uid: "a", At: 1000, From: 1000, To: 1100, Title: "long"}
	dot := api.Occasion{Uid: "b", At: 1000, From: 1000, To: 1000, Title: "point"}
	b := bookOf(t, e, point)
	for _, c := range []struct {
		from, to api.Instant
		want     []api.Occasion
	}{
		{0, 999, nil}, {0, 1000, nil}, {0, 1001, []api.Occasion{dot, long}}, {1000, 1001, []api.Occasion{dot, long}},
		{1000, 1000, nil}, {1001, 1001, []api.Occasion{long}}, {1001, 1002, []api.Occasion{long}}, {999, 1000, nil},
		{1099, 1099, []api.Occasion{long}}, {1099, 1200, []api.Occasion{long}}, {1100, 1100, nil}, {1100, 1200, nil},
		{1000, 1200, []api.Occasion{dot, long}}, {0, 2000, []api.Occasion{dot, long}}, {999, 999, nil},
	} {
		got, err := b.Between(c.from, c.to)
		wantOccasions(t, at("10.4: Between(%d, %d)", c.from, c.to), got, err, c.want...)
		got, err = b.Of("b", c.from, c.to)
		want := c.want
		if len(want) > 0 && want[0] == dot {
			want = want[:1]
		} else {
			want = nil
		}
		wantOccasions(t, at("10.4: Of(b, %d, %d)", c.from, c.to), got, err, want...)
	}
}

// TestWindows: which windows one may ask for.
func TestWindows(t *testing.T) {
	b := bookOf(t, api.Event{Uid: "a", Start: 5})
	const most = 400 * 86400
	for _, c := range []struct {
		from, to api.Instant
		want     api.Errno
	}{
		{0, 0, api.OK}, {1, 0, api.ErrRange}, {0, most, api.OK}, {0, most + 1, api.ErrLimit}, {-1, most, api.ErrLimit},
		{-api.MaxTime, -api.MaxTime, api.OK}, {-api.MaxTime, most - api.MaxTime, api.OK}, {-api.MaxTime - 1, -api.MaxTime, api.ErrRange},
		{api.MaxTime - most, api.MaxTime, api.OK}, {api.MaxTime, api.MaxTime + 1, api.ErrRange}, {api.MaxTime + 1, api.MaxTime + 1, api.ErrRange},
		{-api.MaxTime, api.MaxTime, api.ErrLimit}, {-api.MaxTime - 1, api.MaxTime, api.ErrRange}, {-api.MaxTime, api.MaxTime + 1, api.ErrRange},
		{math.MinInt, math.MaxInt, api.ErrRange}, {math.MaxInt, math.MinInt, api.ErrRange}, {math.MinInt, math.MinInt, api.ErrRange}, {math.MaxInt, math.MaxInt, api.ErrRange},
	} {
		got, err := b.Between(c.from, c.to)
		of, ofErr := b.Of("a", c.from, c.to)
		if c.want == api.OK {
			wantSaid(t, at("10.4: Between(%d, %d)", c.from, c.to), err, api.OK)
			wantSaid(t, at("10.4: Of(%d, %d)", c.from, c.to), ofErr, api.OK)
			continue
		}
		wantError(t, at("10.4: Between(%d, %d)", c.from, c.to), got, err, c.want)
		wantError(t, at("10.4: Of(%d, %d)", c.from, c.to), of, ofErr, c.want)
		of, ofErr = b.Of("x", c.from, c.to)
		wantError(t, at("10.4: Of none (%d, %d)", c.from, c.to), of, ofErr, api.ErrMissing)
	}
}

// TestOrder: by From, To, Uid, At.
func TestOrder(t *testing.T) {
	same := func(uid string, length int, at, start api.Local) api.Event {
		e := api.Event{Uid: uid, Start: 9000, Length: length, In: []api.Local{9001, 9002}}
		e.Others = []api.Other{{At: 9000, Start: start, Length: length}, {At: 9001, Start: start, Length: length}, {At: 9002, Start: at}}
		return e
	}
	b := bookOf(t, same("b", 5, 0, 100), same("a", 5, 0, 100), same("B", 9, 7, 100), same("a.", 5, 0, 99), same("a-", 4, 0, 100))
	o := func(uid string, at api.Local, from, to api.Instant) api.Occasion {
		return api.Occasion{Uid: uid, At: at, From: from, To: to}
	}
	got, err := b.Between(0, 200)
	wantOccasions(t, at("10.4: Between"), got, err,
		o("a", 9002, 0, 0), o("a-", 9002, 0, 0), o("a.", 9002, 0, 0), o("b", 9002, 0, 0), o("B", 9002, 7, 7),
		o("a.", 9000, 99, 104), o("a.", 9001, 99, 104), o("a-", 9000, 100, 104), o("a-", 9001, 100, 104),
		o("a", 9000, 100, 105), o("a", 9001, 100, 105), o("b", 9000, 100, 105), o("b", 9001, 100, 105), o("B", 9000, 100, 109), o("B", 9001, 100, 109))
	got, err = b.Of("a", 0, 200)
	wantOccasions(t, at("10.4: Of"), got, err, o("a", 9002, 0, 0), o("a", 9000, 100, 105), o("a", 9001, 100, 105))
}

// TestZones: when an event begins where clocks go on and back, and what is later is counted in seconds.
func TestZones(t *testing.T) {
	e := api.Event{Uid: "a", Zone: "X", Start: local("2024-03-29T02:30"), Length: 2 * hour, Repeats: true, Rule: ruleOf("FREQ=DAILY;COUNT=4")}
	back := api.Event{Uid: "b", Zone: "X", Start: local("2024-10-27T02:30"), Length: hour}
	b := bookOf(t, e, back)
	o := func(uid, when, from, to string) api.Occasion {
		return api.Occasion{Uid: uid, At: local(when), From: moment(from), To: moment(to)}
	}
	got, err := b.Of("a", moment("2024-03-29T00:00"), moment("2024-04-29T00:00"))
	want := []api.Occasion{
		o("a", "2024-03-29T02:30", "2024-03-29T01:30", "2024-03-29T03:30"), o("a", "2024-03-30T02:30", "2024-03-30T01:30", "2024-03-30T03:30"),
		o("a", "2024-03-31T02:30", "2024-03-31T00:30", "2024-03-31T02:30"), o("a", "2024-04-01T02:30", "2024-04-01T00:30", "2024-04-01T02:30"),
	}
	wantOccasions(t, at("10.3: Of, where clocks go on"), got, err, want...)
	got, err = b.Of("b", moment("2024-10-27T00:00"), moment("2024-10-28T00:00"))
	wantOccasions(t, at("10.3: Of, where clocks go back"), got, err, o("b", "2024-10-27T02:30", "2024-10-27T00:30", "2024-10-27T01:30"))

	wantSaid(t, at("10.1: SetZone"), b.SetZone("X", "era -03:00 -"), api.OK)
	got, err = b.Of("b", moment("2024-10-27T00:00"), moment("2024-10-28T00:00"))
	wantOccasions(t, at("10.3: a zone is taken as it is now"), got, err, o("b", "2024-10-27T02:30", "2024-10-27T05:30", "2024-10-27T06:30"))
	wantPlace(t, at("10.1: SetZone of none"), b.SetZone("X", "x"), api.ErrForm, 0)
	got, err = b.Of("b", moment("2024-10-27T00:00"), moment("2024-10-28T00:00"))
	wantOccasions(t, at("10.3: a zone behind a fault"), got, err, o("b", "2024-10-27T02:30", "2024-10-27T05:30", "2024-10-27T06:30"))
}

// TestFarZones: what is shown may be nearly two days off the moment, and an event nearly as long as a window.
func TestFarZones(t *testing.T) {
	const off = 2 * (23*hour + 59*60)
	for _, length := range []int{0, 1, 100, 400 * 86400} {
		for zone, ahead := range map[string]int{"E": off, "W": -off} {
			e := api.Event{Uid: "a", Zone: zone, Start: 1000, Length: length, Repeats: true, Rule: ruleOf("FREQ=DAILY;COUNT=1"), Others: []api.Other{{At: 1000, Start: 1_000_000, Length: length}}}
			once := api.Event{Uid: "b", Zone: zone, Start: 1_000_000, Length: length}
			again := daily("c")
			again.Zone, again.Start, again.Length, again.Rule.Count = zone, 1_000_000, length, 1
			again.Title = ""
			b := bookOf(t, e, once, again)
			from := api.Instant(1_000_000 - ahead)
			to := from + api.Instant(length)
			want := []api.Occasion{{Uid: "a", At: 1000, From: from, To: to}, {Uid: "b", At: 1_000_000, From: from, To: to}, {Uid: "c", At: 1_000_000, From: from, To: to}}
			wantWindow(t, b, from, from+1, want)
			wantWindow(t, b, from-1, from, nil)
			wantWindow(t, b, to, to, nil)
			if length > 0 {
				wantWindow(t, b, to-1, to, want)
			}
			if length > 1 {
				wantWindow(t, b, to-1, to-1, want)
			}
		}
	}
}

// wantWindow says whether Between answers these.
func wantWindow(t *testing.T, b *book.Book, from, to api.Instant, want []api.Occasion) {
	t.Helper()
	got, err := b.Between(from, to)
	wantOccasions(t, at("10.4: Between(%d, %d)", from, to), got, err, want...)
}

// TestEnds: events at the ends of all times, where zones tell moments beyond them.
func TestEnds(t *testing.T) {
	var l []api.Event
	for _, zone := range []string{"", "E", "W"} {
		l = append(l, api.Event{Uid: "a" + zone, Zone: zone, Start: firstTime, Length: 400 * 86400, In: []api.Local{lastTime}})
	}
	b := bookOf(t, l...)
	// Zones tell rules from year 1 on: ahead of that there is only an era's offset.
	const early, late = 23*hour + 59*60, 2 * (23*hour + 59*60)
	first, last, long := api.Instant(firstTime), api.Instant(lastTime), api.Instant(400*86400)
	soon := api.Occasion{Uid: "aE", At: firstTime, From: first - early, To: first - early + long}
	got, err := b.Between(-api.MaxTime, first-early)
	wantOccasions(t, at("10.4: Between, ahead of all"), got, err)
	got, err = b.Between(-api.MaxTime, first-early+1)
	wantOccasions(t, at("10.4: Between, at the first moment of all"), got, err, soon)
	got, err = b.Between(-api.MaxTime, first+1)
	wantOccasions(t, at("10.4: Between, at the first time"), got, err, soon, api.Occasion{Uid: "a", At: firstTime, From: first, To: first + long})
	got, err = b.Between(last, last)
	wantOccasions(t, at("10.4: Between, at the last moment"), got, err, api.Occasion{Uid: "aE", At: lastTime, From: last - late, To: last - late + long})
	got, err = b.Between(last-1, last)
	wantOccasions(t, at("10.4: Between, ahead of the last moment"), got, err, api.Occasion{Uid: "aE", At: lastTime, From: last - late, To: last - late + long})
}

// TestBetweenIsFresh: what one answer is written into is not in another one.
func TestBetweenIsFresh(t *testing.T) {
	b := bookOf(t, daily("a"), daily("b"))
	from, to := moment("2024-03-04T00:00"), moment("2024-03-06T00:00")
	first, err := b.Between(from, to)
	second, _ := b.Between(from, to)
	of, _ := b.Of("a", from, to)
	for i := range first {
		first[i] = api.Occasion{}
	}
	a, c := daily("a"), daily("b")
	wantOccasions(t, at("P4: Between"), second, err, occasion(a, "2024-03-04T09:00"), occasion(c, "2024-03-04T09:00"), occasion(a, "2024-03-05T09:00"), occasion(c, "2024-03-05T09:00"))
	wantOccasions(t, at("P4: Of"), of, err, occasion(a, "2024-03-04T09:00"), occasion(a, "2024-03-05T09:00"))
}

// TestGoneNearNought: what is gone has no start, not even at the time 0.
func TestGoneNearNought(t *testing.T) {
	b := bookOf(t, api.Event{Uid: "a", Start: 5, Length: 10, Others: []api.Other{{At: 5, Gone: true}}})
	got, err := b.Between(-100, 100)
	wantOccasions(t, at("10.3: Between of what is gone"), got, err)
	got, err = b.Of("a", 0, 0)
	wantOccasions(t, at("10.3: Of what is gone"), got, err)
}
