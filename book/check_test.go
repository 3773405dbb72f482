package book_test

import (
	"math"
	"reflect"
	"slices"
	"strings"
	"testing"

	"almanac/api"
	"almanac/book"
)

// Promise 10.2: which events may be.

// noTimes are times that are not there.
var noTimes = []api.Local{math.MinInt, firstTime - 1, lastTime + 1, 1 << 50, math.MaxInt}

// changed is an event that may be, changed.
func changed(change func(e *api.Event)) api.Event {
	e := full()
	change(&e)
	return e
}

// series are so many times that rise.
func series(many int) []api.Local {
	var l []api.Local
	for i := range many {
		l = append(l, api.Local(i*api.Daily))
	}
	return l
}

// othersAt are others at some times.
func othersAt(times []api.Local) []api.Other {
	var l []api.Other
	for _, x := range times {
		l = append(l, api.Other{At: x, Gone: true})
	}
	return l
}

// wantCheck says whether Check and Put tell this of an event.
func wantCheck(t *testing.T, what string, e api.Event, want api.Errno) {
	t.Helper()
	wantSaid(t, at("10.2: Check, %s", what), book.Check(e), want)
	b := bookOf(t)
	wantSaid(t, at("10.2: Put, %s", what), b.Put(e), want)
	if many := len(b.Uids()); (many == 1) != (want == api.OK) {
		t.Errorf("10.2: Put, %s: there are %d events", what, many)
	}
}

func TestCheck(t *testing.T) {
	for _, c := range []struct {
		what   string
		want   api.Errno
		change func(e *api.Event)
	}{
		{"as it is", api.OK, func(e *api.Event) {}},
		{"Seq at its most", api.OK, func(e *api.Event) { e.Seq = 1_000_000 }},
		{"Seq above its most", api.ErrArg, func(e *api.Event) { e.Seq = 1_000_001 }},
		{"Seq below 0", api.ErrArg, func(e *api.Event) { e.Seq = -1 }},
		{"Seq far off", api.ErrArg, func(e *api.Event) { e.Seq = math.MinInt }},
		{"Length 0", api.OK, func(e *api.Event) { e.Length = 0 }},
		{"Length at its most", api.OK, func(e *api.Event) { e.Length = 400 * 86400 }},
		{"Length above its most", api.ErrArg, func(e *api.Event) { e.Length = 400*86400 + 1 }},
		{"Length below 0", api.ErrArg, func(e *api.Event) { e.Length = -1 }},
		{"Title at its longest", api.OK, func(e *api.Event) { e.Title = strings.Repeat("é", 100) }},
		{"Title longer", api.ErrArg, func(e *api.Event) { e.Title = strings.Repeat("é", 100) + "x" }},
		{"Title of runes that are none", api.OK, func(e *api.Event) { e.Title = "\xff\xe9\x80" }},
		{"Title with a control of two bytes", api.OK, func(e *api.Event) { e.Title = "\u0085\u009f" }},
		{"the zone of no name", api.OK, func(e *api.Event) { e.Zone = "" }},

		{"no others, outs, ins", api.OK, func(e *api.Event) { e.Out, e.In, e.Others = nil, nil, nil }},
		{"60 of all", api.OK, func(e *api.Event) { e.Out, e.In, e.Others = series(60), series(60), othersAt(series(60)) }},
		{"61 outs", api.ErrLimit, func(e *api.Event) { e.Out = series(61) }},
		{"61 ins", api.ErrLimit, func(e *api.Event) { e.In = series(61) }},
		{"61 others", api.ErrLimit, func(e *api.Event) { e.Others = othersAt(series(61)) }},
		{"61 outs that are not there", api.ErrLimit, func(e *api.Event) { e.Out = slices.Repeat([]api.Local{1 << 50}, 61) }},
		{"outs that are one", api.ErrOrder, func(e *api.Event) { e.Out = []api.Local{5, 5} }},
		{"outs that fall", api.ErrOrder, func(e *api.Event) { e.Out = []api.Local{5, 6, 4} }},
		{"ins that are one", api.ErrOrder, func(e *api.Event) { e.In = []api.Local{-5, -5} }},
		{"ins that fall", api.ErrOrder, func(e *api.Event) { e.In = []api.Local{5, -6} }},
		{"others that are one", api.ErrOrder, func(e *api.Event) { e.Others = othersAt([]api.Local{5, 5}) }},
		{"others that fall", api.ErrOrder, func(e *api.Event) { e.Others = othersAt([]api.Local{5, 4}) }},
		{"outs that fall ahead of one that is not there", api.ErrOrder, func(e *api.Event) { e.Out = []api.Local{5, 4, 1 << 50} }},
		{"outs that fall behind one that is not there", api.ErrRange, func(e *api.Event) { e.Out = []api.Local{1 << 50, 5, 4} }},
		{"outs that fall to one that is not there", api.ErrRange, func(e *api.Event) { e.Out = []api.Local{0, -1 << 50} }},
		{"times at both ends", api.OK, func(e *api.Event) {
			ends := []api.Local{firstTime, lastTime}
			e.Out, e.In, e.Others = ends, ends, othersAt(ends)
			e.Others[1] = api.Other{At: lastTime, Start: firstTime, Length: 400 * 86400}
		}},

		{"gone, with a start", api.ErrArg, func(e *api.Event) { e.Others[0].Start = 1 }},
		{"gone, with a start that is not there", api.ErrArg, func(e *api.Event) { e.Others[0].Start = 1 << 50 }},
		{"gone, with a length", api.ErrArg, func(e *api.Event) { e.Others[0].Length = 1 }},
		{"gone, with a title", api.ErrArg, func(e *api.Event) { e.Others[0].Title = "x" }},
		{"other, with nothing", api.OK, func(e *api.Event) { e.Others[1] = api.Other{At: e.Others[1].At} }},
		{"other, with a length at its most", api.OK, func(e *api.Event) { e.Others[1].Length = 400 * 86400 }},
		{"other, with a length above that", api.ErrArg, func(e *api.Event) { e.Others[1].Length = 400*86400 + 1 }},
		{"other, with a length below 0", api.ErrArg, func(e *api.Event) { e.Others[1].Length = -1 }},
		{"other, with a title at its longest", api.OK, func(e *api.Event) { e.Others[1].Title = strings.Repeat("x", 200) }},
		{"other, with a title that is longer", api.ErrArg, func(e *api.Event) { e.Others[1].Title = strings.Repeat("x", 201) }},
		{"other, with a control", api.ErrArg, func(e *api.Event) { e.Others[1].Title = "\x7f" }},

		{"no rule", api.ErrCal, func(e *api.Event) { e.Rule = api.Rule{} }},
		{"a rule that may not be", api.ErrState, func(e *api.Event) { e.Rule.Freq = api.EachDay }},
		{"a rule that has too many times", api.ErrLimit, func(e *api.Event) { e.Rule.Months = make([]int, 61) }},
		{"a start near the first day", api.ErrRange, func(e *api.Event) { e.Start = firstTime + 40_000*86400 - 1 }},
		{"a start less near the first day", api.OK, func(e *api.Event) { e.Start = firstTime + 40_000*86400 }},
		{"a start near the last day", api.ErrRange, func(e *api.Event) { e.Start = lastTime - 40_000*86400 + 1 }},
		{"a start less near the last day", api.OK, func(e *api.Event) { e.Start = lastTime - 40_000*86400 }},
		{"no rule, and none is needed", api.OK, func(e *api.Event) { e.Repeats, e.Rule = false, api.Rule{} }},
		{"a rule that may not be, and none is needed", api.OK, func(e *api.Event) { e.Repeats, e.Rule.Freq = false, 99 }},
		{"the first time as start of what does not repeat", api.OK, func(e *api.Event) { e.Repeats, e.Start = false, firstTime }},
		{"the last time as start of what does not repeat", api.OK, func(e *api.Event) { e.Repeats, e.Start = false, lastTime }},
	} {
		wantCheck(t, c.what, changed(c.change), c.want)
	}
}

// TestCheckNames: the names of events and zones.
func TestCheckNames(t *testing.T) {
	for s, isName := range names {
		want := api.OK
		if !isName {
			want = api.ErrName
		}
		wantSaid(t, at("10.2: Check of the uid %q", s), book.Check(api.Event{Uid: s}), want)
		if s == "" {
			want = api.OK
		}
		wantSaid(t, at("10.2: Check of the zone %q", s), book.Check(api.Event{Uid: "a", Zone: s}), want)
	}
}

// TestCheckTimes: times that are not there, wherever they stand.
func TestCheckTimes(t *testing.T) {
	for _, x := range noTimes {
		for what, change := range map[string]func(e *api.Event){
			"as start":                            func(e *api.Event) { e.Start = x },
			"as start of what does not repeat":    func(e *api.Event) { e.Start, e.Repeats = x, false },
			"as the first out":                    func(e *api.Event) { e.Out = []api.Local{x, 0} },
			"as the only in":                      func(e *api.Event) { e.In = []api.Local{x} },
			"as the last in":                      func(e *api.Event) { e.In = []api.Local{0, x} },
			"as the time of what is gone":         func(e *api.Event) { e.Others[0].At = x },
			"as the time of another one":          func(e *api.Event) { e.Others[1].At = x },
			"as the start of another one":         func(e *api.Event) { e.Others[1].Start = x },
			"as both, of what is at no order too": func(e *api.Event) { e.Others[1].Start, e.Others[1].At = x, 0 },
		} {
			wantCheck(t, shown(x)+" "+what, changed(change), api.ErrRange)
		}
	}
}

// TestCheckTitle: controls, wherever they stand.
func TestCheckTitle(t *testing.T) {
	for b := range 256 {
		want := api.OK
		if b < ' ' || b == 0x7f {
			want = api.ErrArg
		}
		for _, s := range []string{string([]byte{byte(b)}), "aé" + string([]byte{byte(b)}) + "b"} {
			wantSaid(t, at("10.2: Check of the title %q", s), book.Check(api.Event{Uid: "a", Title: s}), want)
			other := api.Event{Uid: "a", Others: []api.Other{{Title: s}}}
			wantSaid(t, at("10.2: Check of another title %q", s), book.Check(other), want)
		}
	}
}

// TestCheckOrder: of what is wrong in an event, the one told first is answered, whatever is wrong behind it.
func TestCheckOrder(t *testing.T) {
	faults := []struct {
		what   string
		want   api.Errno
		change func(e *api.Event)
	}{
		{"uid", api.ErrName, func(e *api.Event) { e.Uid = "" }},
		{"seq", api.ErrArg, func(e *api.Event) { e.Seq = -1 }},
		{"start", api.ErrRange, func(e *api.Event) { e.Start = 1 << 50 }},
		{"outs: too many", api.ErrLimit, func(e *api.Event) { e.Out = series(61) }},
		{"ins: order", api.ErrOrder, func(e *api.Event) { e.In = []api.Local{3, 2} }},
		{"others: second length", api.ErrArg, func(e *api.Event) { e.Others[1].Length = -1 }},
		{"others: last start", api.ErrRange, func(e *api.Event) { e.Others = append(e.Others, api.Other{At: lastTime, Start: 1 << 50}) }},
		{"others: too many", api.ErrLimit, func(e *api.Event) { e.Others = append(e.Others, othersAt(series(60))...) }},
		{"others: order", api.ErrOrder, func(e *api.Event) { e.Others[1].At = e.Others[0].At }},
		{"rule", api.ErrCal, func(e *api.Event) { e.Rule.Cal = 99 }},
	}
	for i, first := range faults {
		e := full()
		for k := len(faults) - 1; k >= i; k-- {
			faults[k].change(&e)
			wantSaid(t, at("10.2: Check, %s", faults[k].what), book.Check(e), faults[k].want)
		}
		wantSaid(t, at("10.2: Check, %s alone", first.what), book.Check(changed(first.change)), first.want)
	}
}

// TestCheckLeavesItAlone: what it is given is not changed.
func TestCheckLeavesItAlone(t *testing.T) {
	e := full()
	slices.Reverse(e.Rule.Places)
	want := full()
	slices.Reverse(want.Rule.Places)
	b := bookOf(t, e)
	wantSaid(t, at("10.2: Check"), book.Check(e), api.OK)
	_, _ = b.Between(api.Instant(e.Start), api.Instant(e.Start)+api.Daily)
	if !reflect.DeepEqual(e, want) {
		t.Errorf("P4: the event that was put: %+v; it was %+v", e, want)
	}
	got, err := b.Get("full")
	wantEvent(t, at("10.2: Get of an event whose lists are in no order"), got, err, want)
}
