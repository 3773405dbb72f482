package book_test

import (
	"fmt"
	"math"
	"testing"

	"almanac/api"
	"almanac/book"
)

// Promise 10.5: Split.

// TestSplit: what each of the two events has.
func TestSplit(t *testing.T) {
	e := full()
	e.Rule = ruleOf("FREQ=DAILY;COUNT=30;BYHOUR=9,11")
	e.Out = locals("2024-03-05T09:00", "2024-03-08T09:00", "2024-03-09T09:00")
	e.In = locals("2024-03-01T08:00", "2024-03-08T08:59", "2024-03-08T09:01")
	e.Others = []api.Other{{At: local("2024-03-08T08:00"), Gone: true}, {At: local("2024-03-08T09:00"), Start: local("2024-03-02T09:00"), Length: 60, Title: "late"}, {At: local("2024-03-20T09:00"), Gone: true}}
	b := bookOf(t, e, daily("x"))
	when := local("2024-03-08T09:00")
	wantSaid(t, at("10.5: Split"), b.Split("full", when, "new"), api.OK)

	ahead := e
	ahead.Seq = 8
	ahead.Rule = ruleOf("FREQ=DAILY;UNTIL=20240308T085959;BYHOUR=9,11")
	ahead.Out, ahead.In, ahead.Others = e.Out[:1], e.In[:2], e.Others[:1]
	behind := e
	behind.Uid, behind.Seq, behind.Start = "new", 0, when
	behind.Rule = ruleOf("FREQ=DAILY;COUNT=22;UNTIL=20540304T235959;BYHOUR=9,11")
	behind.Out, behind.In, behind.Others = e.Out[1:], e.In[2:], e.Others[1:]
	got, err := b.Get("full")
	wantEvent(t, at("10.5: the event ahead"), got, err, ahead)
	got, err = b.Get("new")
	wantEvent(t, at("10.5: the event behind"), got, err, behind)
	got, err = b.Get("x")
	wantEvent(t, at("10.5: another event"), got, err, daily("x"))
	wantValue(t, at("10.5: Uids"), b.Uids(), nil, []string{"full", "new", "x"})

	// They are events as others are.
	wantSaid(t, at("10.5: Put of the event's old number"), b.Put(e), api.ErrOld)
	wantSaid(t, at("10.5: Drop of the event's old number"), b.Drop("full", 7), api.ErrOld)
	wantSaid(t, at("10.5: Put of a later state"), b.Put(api.Event{Uid: "new", Seq: 1}), api.OK)
	wantSaid(t, at("10.5: Drop"), b.Drop("full", 8), api.OK)
}

// TestSplitEnds: the new event's rule ends where the old one would.
func TestSplitEnds(t *testing.T) {
	for _, c := range []struct{ rule, when, ahead, behind string }{
		{"FREQ=DAILY", "2024-03-05T09:00", "FREQ=DAILY;UNTIL=20240305T085959", "FREQ=DAILY;UNTIL=20540304T235959"},
		{"FREQ=DAILY", "2054-03-04T09:00", "FREQ=DAILY;UNTIL=20540304T085959", "FREQ=DAILY;UNTIL=20540304T235959"},
		{"FREQ=DAILY;UNTIL=20240310T000000", "2024-03-09T09:00", "FREQ=DAILY;UNTIL=20240309T085959", "FREQ=DAILY;UNTIL=20240310T000000"},
		{"FREQ=DAILY;UNTIL=20240309T090000", "2024-03-09T09:00", "FREQ=DAILY;UNTIL=20240309T085959", "FREQ=DAILY;UNTIL=20240309T090000"},
		{"FREQ=DAILY;UNTIL=20540304T235959", "2024-03-09T09:00", "FREQ=DAILY;UNTIL=20240309T085959", "FREQ=DAILY;UNTIL=20540304T235959"},
		{"FREQ=DAILY;UNTIL=20540304T235958", "2024-03-09T09:00", "FREQ=DAILY;UNTIL=20240309T085959", "FREQ=DAILY;UNTIL=20540304T235958"},
		{"FREQ=DAILY;UNTIL=20540305T000000", "2024-03-09T09:00", "FREQ=DAILY;UNTIL=20240309T085959", "FREQ=DAILY;UNTIL=20540304T235959"},
		{"FREQ=DAILY;UNTIL=99991231T000000", "2024-03-09T09:00", "FREQ=DAILY;UNTIL=20240309T085959", "FREQ=DAILY;UNTIL=20540304T235959"},
		{"FREQ=DAILY;COUNT=2", "2024-03-05T09:00", "FREQ=DAILY;UNTIL=20240305T085959", "FREQ=DAILY;COUNT=1;UNTIL=20540304T235959"},
		{"FREQ=DAILY;COUNT=10;UNTIL=20240310T000000", "2024-03-08T09:00", "FREQ=DAILY;UNTIL=20240308T085959", "FREQ=DAILY;COUNT=6;UNTIL=20240310T000000"},
		{"FREQ=MONTHLY;COUNT=3", "2024-05-04T09:00", "FREQ=MONTHLY;UNTIL=20240504T085959", "FREQ=MONTHLY;COUNT=1;UNTIL=20540304T235959"},
		// The start is none of these times.
		{"FREQ=WEEKLY;BYDAY=TU;COUNT=3", "2024-03-12T09:00", "FREQ=WEEKLY;BYDAY=TU;UNTIL=20240312T085959", "FREQ=WEEKLY;BYDAY=TU;COUNT=2;UNTIL=20540304T235959"},
	} {
		e := daily("a")
		e.Rule = ruleOf(c.rule)
		b := bookOf(t, e)
		wantSaid(t, at("10.5: Split of %s at %s", c.rule, c.when), b.Split("a", local(c.when), "n"), api.OK)
		ahead, err := b.Get("a")
		wantValue(t, at("10.5: the rule ahead of %s, %s", c.rule, c.when), bare(ahead).Rule, err, ruleOf(c.ahead))
		behind, err := b.Get("n")
		wantValue(t, at("10.5: the rule behind %s, %s", c.rule, c.when), bare(behind).Rule, err, ruleOf(c.behind))
		wantValue(t, at("10.5: the start behind %s", c.when), behind.Start, nil, local(c.when))
	}
}

// TestSplitFaults: what may not be split, in order; and then nothing is done.
func TestSplitFaults(t *testing.T) {
	e := daily("a")
	e.Rule = ruleOf("FREQ=WEEKLY;BYDAY=TU,WE;COUNT=3") // 5, 6 and 12 March
	e.Out = locals("2024-03-06T09:00")
	e.In = locals("2024-03-07T09:00")
	e.Others = []api.Other{{At: local("2024-03-07T09:00"), Start: local("2024-03-13T09:00")}}
	once := daily("once")
	once.Repeats = false
	b := bookOf(t, e, once, daily("gone"))
	wantSaid(t, at("10.2: Drop"), b.Drop("gone", 0), api.OK)
	good := local("2024-03-06T09:00")
	for _, c := range []struct {
		uid  string
		at   api.Local
		as   string
		want api.Errno
	}{
		{"x", good, "", api.ErrMissing}, {"", good, "n", api.ErrMissing}, {"gone", good, "n", api.ErrMissing}, {"n", good, "a", api.ErrMissing},
		{"a", good, "", api.ErrName}, {"a", good, "no name", api.ErrName}, {"once", good, "é", api.ErrName},
		{"a", good, "a", api.ErrExists}, {"a", 0, "once", api.ErrExists}, {"a", good, "gone", api.ErrExists}, {"once", good, "gone", api.ErrExists},
		{"once", good, "n", api.ErrState}, {"once", local("2024-03-04T09:00"), "n", api.ErrState},
		{"a", local("2024-03-05T09:00"), "n", api.ErrState}, // the first one
		{"a", local("2024-03-04T09:00"), "n", api.ErrState}, // the start, which is none
		{"a", local("2024-03-07T09:00"), "n", api.ErrState}, // one of In
		{"a", local("2024-03-13T09:00"), "n", api.ErrState}, // behind the last one
		{"a", good + 1, "n", api.ErrState}, {"a", good - 1, "n", api.ErrState}, {"a", 0, "n", api.ErrState},
		{"a", math.MinInt, "n", api.ErrState}, {"a", math.MaxInt, "n", api.ErrState}, {"a", lastTime, "n", api.ErrState},
	} {
		wantSaid(t, at("10.5: Split(%q, %s, %q)", c.uid, shown(c.at), c.as), b.Split(c.uid, c.at, c.as), c.want)
	}
	got, err := b.Get("a")
	wantEvent(t, at("P2: an event behind faults"), got, err, e)
	wantValue(t, at("P2: Uids behind faults"), b.Uids(), nil, []string{"a", "once"})
	wantSaid(t, at("10.5: Split at a time that is out"), b.Split("a", good, "n"), api.OK)
	wantSaid(t, at("10.5: Split at the last time"), b.Split("n", local("2024-03-12T09:00"), "m"), api.OK)
	wantSaid(t, at("10.5: Split of an event that has one time only"), b.Split("m", local("2024-03-12T09:00"), "o"), api.ErrState)
}

// TestSplitOfMany: where there are 500 events, there can be none more.
func TestSplitOfMany(t *testing.T) {
	b := bookOf(t, daily("a"), api.Event{Uid: "once"})
	for i := range api.MaxEvents - 3 {
		wantSaid(t, at("10.2: Put of event %d", i), b.Put(api.Event{Uid: fmt.Sprint(i)}), api.OK)
	}
	when := daily("a").Start
	wantSaid(t, at("10.5: the 500th event"), b.Split("a", when+api.Daily, "n"), api.OK)
	for _, c := range []struct {
		uid, as string
		at      api.Local
		want    api.Errno
	}{{"n", "m", when + 2*api.Daily, api.ErrLimit}, {"n", "m", 0, api.ErrLimit}, {"once", "m", when, api.ErrState}, {"n", "a", when, api.ErrExists}} {
		wantSaid(t, at("10.5: Split(%s, %s) of 500 events", c.uid, c.as), b.Split(c.uid, c.at, c.as), c.want)
	}
}

// TestSplitOfWhatMayNotBe: what Check says of the new event is said, and nothing is done.
func TestSplitOfWhatMayNotBe(t *testing.T) {
	e := daily("a")
	e.Start = lastTime - 40_000*api.Daily - 2*api.Daily + 1
	b := bookOf(t, e)
	wantSaid(t, at("10.5: Split into what begins too late"), b.Split("a", e.Start+2*api.Daily, "n"), api.ErrRange)
	got, err := b.Get("a")
	wantEvent(t, at("P2: an event behind that"), got, err, e)
	wantValue(t, at("P2: Uids behind that"), b.Uids(), nil, []string{"a"})
	wantSaid(t, at("10.5: Split into what begins just in time"), b.Split("a", e.Start+api.Daily, "n"), api.OK)

	most := daily("a")
	most.Seq = 1_000_000
	b = bookOf(t, most)
	wantSaid(t, at("10.5: Split of an event with the highest number"), b.Split("a", most.Start+api.Daily, "n"), api.OK)
	got, err = b.Get("a")
	wantValue(t, at("10.5: its number behind that"), got.Seq, err, 1_000_001)
}

// TestSplitIsFresh: the two events share no list.
func TestSplitIsFresh(t *testing.T) {
	e := full()
	e.Rule = ruleOf("FREQ=DAILY;BYHOUR=9,10")
	b := bookOf(t, e)
	wantSaid(t, at("10.5: Split"), b.Split("full", local("2024-03-11T09:00"), "n"), api.OK)
	first, _ := b.Get("full")
	second, _ := b.Get("n")
	want := [2]string{fmt.Sprint(first), fmt.Sprint(second)}
	spoil(first)
	grow(first)
	spoil(second)
	grow(second)
	first, _ = b.Get("full")
	second, _ = b.Get("n")
	wantValue(t, at("P4: both events, once their answers were written into"), [2]string{fmt.Sprint(first), fmt.Sprint(second)}, nil, want)
}

// wantAsAhead says whether what takes place in a window is what took place ahead of a split, but for the new name.
func wantAsAhead(t *testing.T, b *book.Book, from, to api.Instant, as, was string, ahead []api.Occasion) {
	t.Helper()
	got, err := b.Between(from, to)
	for i := range got {
		if got[i].Uid == as {
			got[i].Uid = was
		}
	}
	sortOccasions(got)
	wantOccasions(t, at("10.5: Between(%d, %d), once %s was split", from, to, was), got, err, ahead...)
}
