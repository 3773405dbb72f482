package book_test

import (
	"fmt"
	"math/rand"
	"slices"
	"sort"
	"testing"

	"almanac/api"
	"almanac/book"
	"almanac/rule"
	"almanac/zone"
)

// A model of 10.3 and 10.4: all times of an event, and all that they make, from the first to the last.

// modelTimes are all times of an event.
func modelTimes(e api.Event) map[api.Local]bool {
	times := map[api.Local]bool{}
	if e.Repeats {
		all, err := rule.All(e.Rule, e.Start)
		if err != nil {
			panic(err)
		}
		for x := range all {
			times[x] = true
		}
	} else {
		times[e.Start] = true
	}
	for _, x := range e.In {
		times[x] = true
	}
	for _, x := range e.Out {
		delete(times, x)
	}
	return times
}

// modelOccasions are all occasions of an event.
func modelOccasions(e api.Event, z *zone.Zone) []api.Occasion {
	others := map[api.Local]api.Other{}
	for _, o := range e.Others {
		others[o.At] = o
	}
	var l []api.Occasion
	for x := range modelTimes(e) {
		start, length, title := x, e.Length, e.Title
		if o, ok := others[x]; ok {
			if o.Gone {
				continue
			}
			start, length, title = o.Start, o.Length, o.Title
		}
		from, err := z.Resolve(start, api.Early)
		if err != nil {
			panic(err)
		}
		l = append(l, api.Occasion{Uid: e.Uid, At: x, From: from, To: from + api.Instant(length), Title: title, Free: e.Free})
	}
	return l
}

// inWindow are those of some occasions that a window has, in order.
func inWindow(all []api.Occasion, from, to api.Instant) []api.Occasion {
	var l []api.Occasion
	for _, o := range all {
		isBegun, isOver := o.From < from, o.To <= from
		if o.From < to && !(isBegun && isOver) {
			l = append(l, o)
		}
	}
	sortOccasions(l)
	return l
}

func sortOccasions(l []api.Occasion) {
	sort.Slice(l, func(i, k int) bool {
		a, b := l[i], l[k]
		switch {
		case a.From != b.From:
			return a.From < b.From
		case a.To != b.To:
			return a.To < b.To
		case a.Uid != b.Uid:
			return a.Uid < b.Uid
		}
		return a.At < b.At
	})
}

// drawnRules are rules of all kinds.
var drawnRules = []string{
	"FREQ=DAILY", "FREQ=DAILY;INTERVAL=3", "FREQ=DAILY;COUNT=7", "FREQ=DAILY;COUNT=10000", "FREQ=DAILY;BYHOUR=1,9,17;COUNT=50", "FREQ=DAILY;BYMONTH=2,3;BYMINUTE=0,30",
	"FREQ=WEEKLY", "FREQ=WEEKLY;BYDAY=MO,WE,SU", "FREQ=WEEKLY;INTERVAL=2;BYDAY=SU,MO;WKST=SU", "FREQ=WEEKLY;BYDAY=TU;COUNT=3", "FREQ=WEEKLY;BYDAY=MO,TU;BYSETPOS=-1;COUNT=9",
	"FREQ=MONTHLY", "FREQ=MONTHLY;BYDAY=-1FR", "FREQ=MONTHLY;BYMONTHDAY=31,-2", "FREQ=MONTHLY;INTERVAL=5;COUNT=4", "FREQ=MONTHLY;BYDAY=MO,TU,WE,TH,FR;BYSETPOS=1,-1", "RSCALE=HEBREW;FREQ=MONTHLY;BYMONTHDAY=1",
	"FREQ=YEARLY", "FREQ=YEARLY;BYMONTH=3;BYDAY=2SU", "RSCALE=ISLAMIC;FREQ=YEARLY", "FREQ=YEARLY;BYWEEKNO=10,20,-1;BYDAY=MO", "FREQ=YEARLY;BYYEARDAY=1,100,-1", "FREQ=YEARLY;BYMONTH=2;BYMONTHDAY=29", "FREQ=YEARLY;BYMONTH=13",
	"FREQ=HOURLY;INTERVAL=7", "FREQ=HOURLY;BYHOUR=8,9,10;BYMINUTE=0,15,30,45;COUNT=3000", "FREQ=HOURLY;INTERVAL=5;COUNT=40",
}

// drawnEvent is one of about 2024.
func drawnEvent(r *rand.Rand, uid string) api.Event {
	lengths := []int{0, 1, 60, hour, hour, 3 * hour, api.Daily, 3 * api.Daily, 400 * api.Daily}
	near := local("2024-03-04T09:00")
	e := api.Event{
		Uid: uid, Seq: r.Intn(9), Title: []string{"", "tea", "walk"}[r.Intn(3)], Zone: []string{"", "X", "X", "E", "W"}[r.Intn(5)],
		Start: near + api.Local(r.Intn(60)*api.Daily+r.Intn(4)*hour/2), Length: lengths[r.Intn(len(lengths))], Free: r.Intn(3) == 0,
	}
	if r.Intn(5) > 0 {
		e.Repeats, e.Rule = true, ruleOf(drawnRules[r.Intn(len(drawnRules))])
		if r.Intn(4) == 0 {
			e.Rule.Ends, e.Rule.Until = true, e.Start+api.Local(r.Intn(200*api.Daily))
		}
	}
	times := soonTimes(e)
	drawn := func(most int) []api.Local {
		var l []api.Local
		for range r.Intn(1 + most) {
			x := e.Start + api.Local(r.Intn(60*api.Daily))
			if len(times) > 0 && r.Intn(4) > 0 {
				x = times[r.Intn(len(times))]
			}
			l = append(l, x)
		}
		slices.Sort(l)
		return slices.Compact(l)
	}
	e.Out, e.In = drawn(5), drawn(5)
	for _, x := range drawn(8) {
		o := api.Other{At: x, Gone: true}
		if r.Intn(3) > 0 {
			o = api.Other{At: x, Start: e.Start + api.Local(r.Intn(90*api.Daily)-15*api.Daily), Length: lengths[r.Intn(len(lengths))], Title: "other"}
		}
		e.Others = append(e.Others, o)
	}
	return e
}

// soonTimes are the first times of an event's rule, or its start.
func soonTimes(e api.Event) []api.Local {
	if !e.Repeats {
		return []api.Local{e.Start}
	}
	var l []api.Local
	all, err := rule.All(e.Rule, e.Start)
	if err != nil {
		panic(err)
	}
	for x := range all {
		if l = append(l, x); len(l) == 60 {
			break
		}
	}
	return l
}

// drawnWindow is one of about 2024, of any length; it begins and ends where occasions do, often.
func drawnWindow(r *rand.Rand, all []api.Occasion) (from, to api.Instant) {
	from = moment("2024-02-20T00:00") + api.Instant(r.Intn(120*api.Daily))
	if len(all) > 0 && r.Intn(2) == 0 {
		o := all[r.Intn(len(all))]
		from = []api.Instant{o.From, o.To}[r.Intn(2)] + api.Instant(r.Intn(3)-1)
	}
	longs := []int{1, 2, 2 * hour, 3 * api.Daily, 40 * api.Daily, api.MaxWindow + 1}
	to = from + api.Instant(r.Intn(longs[r.Intn(len(longs))]))
	if len(all) > 0 && r.Intn(3) == 0 {
		o := all[r.Intn(len(all))]
		to = []api.Instant{o.From, o.To}[r.Intn(2)] + api.Instant(r.Intn(3)-1)
		to = min(max(from, to), from+api.MaxWindow)
	}
	return from, to
}

// drawnBook is a book of drawn events, and all occasions of these.
func drawnBook(t *testing.T, r *rand.Rand) (*book.Book, []api.Event, [][]api.Occasion) {
	t.Helper()
	var events []api.Event
	for i := range 1 + r.Intn(5) {
		events = append(events, drawnEvent(r, fmt.Sprint("e", i)))
	}
	b := bookOf(t, events...)
	var all [][]api.Occasion
	for _, e := range events {
		z, err := b.Zone(e.Zone)
		if err != nil {
			t.Fatalf("10.1: Zone(%s): %v", e.Zone, err)
		}
		all = append(all, modelOccasions(e, z))
	}
	return b, events, all
}

// TestDrawnBooks: what Of, Between and Has answer is what the model does.
func TestDrawnBooks(t *testing.T) {
	r := rand.New(rand.NewSource(1003))
	found := 0
	for range 80 {
		b, events, all := drawnBook(t, r)
		whole := slices.Concat(all...)
		for range 15 {
			from, to := drawnWindow(r, whole)
			got, err := b.Between(from, to)
			want := inWindow(whole, from, to)
			found += len(want)
			wantOccasions(t, at("10.4: Between(%d, %d) of %+v", from, to, events), got, err, want...)
			k := r.Intn(len(events))
			got, err = b.Of(events[k].Uid, from, to)
			wantOccasions(t, at("10.4: Of(%d, %d) of %+v", from, to, events[k]), got, err, inWindow(all[k], from, to)...)
			wantMeeting(t, b, r, from, to)
		}
		for _, e := range events {
			wantTimes(t, b, r, e)
		}
	}
	if found < 50_000 {
		t.Errorf("only %d occasions were found", found)
	}
}

// wantMeeting says whether what takes place in two windows that follow each other is what takes place in both as one.
func wantMeeting(t *testing.T, b *book.Book, r *rand.Rand, from, to api.Instant) {
	t.Helper()
	between := from + api.Instant(r.Intn(int(to-from)+1))
	whole, err := b.Between(from, to)
	first, firstErr := b.Between(from, between)
	second, secondErr := b.Between(between, to)
	if err != nil || firstErr != nil || secondErr != nil {
		t.Errorf("10.4: Between(%d, %d, %d): %v, %v, %v", from, between, to, err, firstErr, secondErr)
	}
	both := append(first, second...)
	sortOccasions(both)
	// What is in both windows is told twice.
	if both = slices.Compact(both); !slices.Equal(both, whole) {
		t.Errorf("10.5: Between(%d, %d) and Between(%d, %d): %s; as one: %s", from, between, between, to, shownAll(both), shownAll(whole))
	}
}

// wantTimes says whether an event has the times that the model tells, of some that are drawn.
func wantTimes(t *testing.T, b *book.Book, r *rand.Rand, e api.Event) {
	t.Helper()
	times := modelTimes(e)
	asked := slices.Concat(soonTimes(e), e.In, e.Out, []api.Local{e.Start})
	for _, o := range e.Others {
		asked = append(asked, o.At, o.Start)
	}
	for range 20 {
		x := asked[r.Intn(len(asked))] + api.Local([]int{0, 0, 1, -1, hour, api.Daily}[r.Intn(6)])
		got, err := b.Has(e.Uid, x)
		wantValue(t, at("10.3: Has(%s) of %+v", shown(x), e), got, err, times[x])
	}
}

// TestDrawnSplits: what is split takes place as before.
func TestDrawnSplits(t *testing.T) {
	r := rand.New(rand.NewSource(1005))
	splits := 0
	for range 200 {
		b, events, all := drawnBook(t, r)
		e := events[r.Intn(len(events))]
		if !e.Repeats {
			continue
		}
		times := soonTimes(e)
		if len(times) < 2 {
			continue
		}
		splits++
		when := times[1+r.Intn(len(times)-1)]
		wantSaid(t, at("10.5: Split(%s) of %+v", shown(when), e), b.Split(e.Uid, when, "n"), api.OK)
		whole := slices.Concat(all...)
		for range 8 {
			from, to := drawnWindow(r, whole)
			wantAsAhead(t, b, from, to, "n", e.Uid, inWindow(whole, from, to))
		}
		late := api.Instant(e.Start) + api.Horizon*api.Daily
		wantAsAhead(t, b, late-api.MaxWindow/2, late+api.MaxWindow/2, "n", e.Uid, inWindow(whole, late-api.MaxWindow/2, late+api.MaxWindow/2))
	}
	if splits < 100 {
		t.Errorf("only %d events were split", splits)
	}
}
