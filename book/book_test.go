package book_test

import (
	"fmt"
	"math"
	"reflect"
	"slices"
	"strings"
	"testing"

	"almanac/api"
	"almanac/book"
)

// Promises 10.1 and 10.2: names, zones, and which events there are.

// names are texts, and whether they may be names.
var names = map[string]bool{
	"a": true, "Z": true, "0": true, "-": true, "_": true, ".": true, "/": true, "@": true, "a/b@c-1_.": true, "Europe/Berlin": true,
	strings.Repeat("x", 40): true, strings.Repeat("x", 41): false, strings.Repeat("x", 1000): false,
	"": false, " ": false, "a b": false, "a ": false, "é": false, "a\x00": false, "a\n": false, "a,b": false, "a:b": false, "ſ": false, "\xff": false,
}

func TestName(t *testing.T) {
	for s, want := range names {
		if got := book.Name(s); got != want {
			t.Errorf("10.1: Name(%q): %v", s, got)
		}
	}
	const all = "ABCDEFGHIJKLMNOPQRSTUVWXYZabcdefghijklmnopqrstuvwxyz0123456789-_./@"
	for b := range 256 {
		s := string([]byte{byte(b)})
		if got := book.Name(s); got != strings.Contains(all, s) {
			t.Errorf("10.1: Name(%q): %v", s, got)
		}
		if got := book.Name("a" + s + "b"); got != strings.Contains(all, s) {
			t.Errorf("10.1: Name(%q): %v", "a"+s+"b", got)
		}
	}
}

func TestSetZone(t *testing.T) {
	b := book.New()
	for s, isName := range names {
		want := api.OK
		if !isName {
			want = api.ErrName
			wantSaid(t, at("10.1: SetZone(%q) of no zone: the name is told first", s), b.SetZone(s, "era"), want)
		}
		wantSaid(t, at("10.1: SetZone(%q)", s), b.SetZone(s, "era +01:00 -"), want)
		if s == "" {
			continue
		}
		z, err := b.Zone(s)
		if want != api.OK {
			wantError(t, at("10.1: Zone(%q)", s), z, err, api.ErrMissing)
		} else {
			wantValue(t, at("10.1: the clocks of Zone(%q)", s), z.At(0), err, api.Now{Offset: hour})
		}
	}
	wantPlace(t, at("10.1: SetZone of no zone"), b.SetZone("Y", "era +01:00 -\n\nno"), api.ErrForm, 14)
	wantPlace(t, at("10.1: SetZone of no text"), b.SetZone("Y", ""), api.ErrMissing, 0)
	wantSaid(t, at("10.1: SetZone of a text that is too long"), b.SetZone("Y", strings.Repeat(" ", api.MaxText+1)), api.ErrLimit)
	z, err := b.Zone("Y")
	wantError(t, at("10.1: Zone of one that was never set"), z, err, api.ErrMissing)
	z, err = b.Zone("A")
	wantError(t, at("10.1: Zone of a name in other letters"), z, err, api.ErrMissing)
}

// TestSetZoneAgain: a zone takes the place of one that was, but only if it is one.
func TestSetZoneAgain(t *testing.T) {
	b := book.New()
	wantSaid(t, at("10.1: SetZone"), b.SetZone("X", "era +01:00 -"), api.OK)
	ahead, _ := b.Zone("X")
	wantPlace(t, at("10.1: SetZone of no zone"), b.SetZone("X", "era"), api.ErrForm, 0)
	z, err := b.Zone("X")
	wantValue(t, at("P2: a zone behind a fault"), z.At(0), err, api.Now{Offset: hour})
	wantSaid(t, at("10.1: SetZone again"), b.SetZone("X", "era -02:00 -"), api.OK)
	z, err = b.Zone("X")
	wantValue(t, at("10.1: a zone that was set again"), z.At(0), err, api.Now{Offset: -2 * hour})
	wantValue(t, at("P4: the zone that was handed out ahead"), ahead.At(0), nil, api.Now{Offset: hour})
}

// TestZoneOfNoName: it is there from the beginning on.
func TestZoneOfNoName(t *testing.T) {
	z, err := book.New().Zone("")
	if err != nil {
		t.Fatalf("10.1: Zone of the empty name: %v", err)
	}
	for _, x := range []api.Instant{math.MinInt, -api.MaxTime, 0, 1_700_000_000, api.MaxTime, math.MaxInt} {
		wantValue(t, at("10.1: the clocks of the empty name at %d", x), z.At(x), nil, api.Now{})
	}
	if l := z.Changes(-api.MaxTime, api.MaxTime); len(l) > 0 {
		t.Errorf("10.1: the clocks of the empty name change: %v", l)
	}
}

// TestZoneIsFresh: what somebody does with a zone that they were given is not of the book.
func TestZoneIsFresh(t *testing.T) {
	b := bookOf(t, api.Event{Uid: "a", Zone: "X"}, api.Event{Uid: "b"})
	for _, name := range []string{"X", ""} {
		first, _ := b.Zone(name)
		second, _ := b.Zone(name)
		if first == second {
			t.Errorf("P4: Zone(%q) is one thing each time", name)
		}
		z, _ := b.Zone("E")
		reflect.ValueOf(first).Elem().Set(reflect.ValueOf(z).Elem())
	}
	got, err := b.Between(-api.Daily, api.Daily)
	wantOccasions(t, at("P4: the occasions, once the zones were written into"), got, err,
		api.Occasion{Uid: "a", From: -hour, To: -hour}, api.Occasion{Uid: "b"})
}

// TestPut: an event is there, with all that it has, until there is a later state of it.
func TestPut(t *testing.T) {
	b := bookOf(t)
	once := api.Event{Uid: "once", Title: "walk", Start: local("2024-03-04T09:00"), Length: 5}
	withRule := api.Event{Uid: "rule", Rule: ruleOf("FREQ=DAILY;BYHOUR=1"), Start: 5}
	noRule := withRule
	noRule.Rule = api.Rule{}
	for _, c := range []struct{ put, want api.Event }{{once, once}, {full(), full()}, {withRule, noRule}, {daily("a"), daily("a")}, {api.Event{Uid: "0"}, api.Event{Uid: "0"}}} {
		wantSaid(t, at("10.2: Put(%+v)", c.put), b.Put(c.put), api.OK)
		got, err := b.Get(c.put.Uid)
		wantEvent(t, at("10.2: Get(%s)", c.put.Uid), got, err, c.want)
	}
	wantValue(t, at("10.2: Uids"), b.Uids(), nil, []string{"0", "a", "full", "once", "rule"})
	later := api.Event{Uid: "full", Seq: 8}
	wantSaid(t, at("10.2: Put of a later state"), b.Put(later), api.OK)
	got, err := b.Get("full")
	wantEvent(t, at("10.2: Get of a later state"), got, err, later)
	got, err = b.Get("Full")
	wantError(t, at("10.2: Get of none"), got, err, api.ErrMissing)
}

// TestUids: in order of their bytes.
func TestUids(t *testing.T) {
	b := book.New()
	if l := b.Uids(); len(l) > 0 {
		t.Errorf("10.2: Uids of a book that has none: %v", l)
	}
	uids := []string{"b", "a", "B", "a.b", "a-b", "a/b", "_", "@", "10", "9", "aa", "A", "z"}
	for _, uid := range uids {
		wantSaid(t, at("10.2: Put(%s)", uid), b.Put(api.Event{Uid: uid}), api.OK)
	}
	slices.Sort(uids)
	got := b.Uids()
	wantValue(t, at("10.2: Uids"), got, nil, uids)
	got[0] = "x"
	wantValue(t, at("P4: Uids, once the list was written into"), b.Uids(), nil, uids)
}

// TestPutFaults: what Put asks behind Check, in order.
func TestPutFaults(t *testing.T) {
	b := bookOf(t, api.Event{Uid: "a", Seq: 5, Title: "old"})
	for _, c := range []struct {
		event api.Event
		want  api.Errno
	}{
		{api.Event{Uid: "a", Seq: 4}, api.ErrOld},
		{api.Event{Uid: "a", Seq: 5}, api.ErrOld},
		{api.Event{Uid: "a"}, api.ErrOld},
		{api.Event{Uid: "b", Zone: "Q"}, api.ErrMissing},
		{api.Event{Uid: "b", Zone: "x"}, api.ErrMissing},
		{api.Event{Uid: "a", Zone: "Q"}, api.ErrMissing},
		{api.Event{Uid: "a", Zone: "Q", Seq: -1}, api.ErrArg},
		{api.Event{Uid: "b", Zone: "no name"}, api.ErrName},
		{api.Event{Uid: "a", Seq: 6, Repeats: true}, api.ErrCal},
	} {
		wantSaid(t, at("10.2: Put(%+v)", c.event), b.Put(c.event), c.want)
	}
	got, err := b.Get("a")
	wantEvent(t, at("P2: an event behind faults"), got, err, api.Event{Uid: "a", Seq: 5, Title: "old"})
	wantValue(t, at("P2: Uids behind faults"), b.Uids(), nil, []string{"a"})
}

func TestDrop(t *testing.T) {
	b := bookOf(t, api.Event{Uid: "a", Seq: 5}, api.Event{Uid: "b"})
	for _, c := range []struct {
		uid  string
		seq  int
		want api.Errno
	}{
		{"a", 4, api.ErrOld}, {"a", -1, api.ErrOld}, {"a", math.MinInt, api.ErrOld}, {"c", 9, api.ErrMissing}, {"", 9, api.ErrMissing}, {"no name", 9, api.ErrMissing},
		{"b", -1, api.ErrOld}, {"a", 5, api.OK}, {"a", 5, api.ErrMissing}, {"b", 9, api.OK}, {"b", 10, api.ErrMissing},
	} {
		wantSaid(t, at("10.2: Drop(%q, %d)", c.uid, c.seq), b.Drop(c.uid, c.seq), c.want)
	}
	got, err := b.Get("a")
	wantError(t, at("10.2: Get of what was dropped"), got, err, api.ErrMissing)
	if l := b.Uids(); len(l) > 0 {
		t.Errorf("10.2: Uids when all were dropped: %v", l)
	}
	all, err := b.Between(-api.Daily, api.Daily)
	wantOccasions(t, at("10.4: Between when all were dropped"), all, err)
	for _, c := range []struct {
		uid  string
		seq  int
		want api.Errno
	}{{"a", 4, api.ErrOld}, {"a", 5, api.ErrOld}, {"b", 9, api.ErrOld}, {"b", 0, api.ErrOld}, {"a", 6, api.OK}, {"a", 6, api.ErrOld}, {"b", 10, api.OK}} {
		wantSaid(t, at("10.2: Put(%s, %d) of what was dropped", c.uid, c.seq), b.Put(api.Event{Uid: c.uid, Seq: c.seq}), c.want)
	}
	wantValue(t, at("10.2: Uids of what was put again"), b.Uids(), nil, []string{"a", "b"})
	wantSaid(t, at("10.2: Drop again"), b.Drop("a", 7), api.OK)
	wantSaid(t, at("10.2: Put of the number that it had"), b.Put(api.Event{Uid: "a", Seq: 7}), api.ErrOld)
	wantSaid(t, at("10.2: Put of a later one"), b.Put(api.Event{Uid: "a", Seq: 8}), api.OK)
	wantSaid(t, at("10.2: Drop with a number that no event has"), b.Drop("a", math.MaxInt), api.OK)
	wantSaid(t, at("10.2: Put of the last number"), b.Put(api.Event{Uid: "a", Seq: 1_000_000}), api.ErrOld)
}

// TestMany: 500 events, and none more.
func TestMany(t *testing.T) {
	b := book.New()
	for i := range api.MaxEvents {
		wantSaid(t, at("10.2: Put of event %d", i), b.Put(api.Event{Uid: fmt.Sprint(i)}), api.OK)
	}
	wantSaid(t, at("10.2: Put of the 501st"), b.Put(api.Event{Uid: "x"}), api.ErrLimit)
	wantSaid(t, at("10.2: Put of the 501st, which has no zone"), b.Put(api.Event{Uid: "x", Zone: "Q"}), api.ErrMissing)
	wantSaid(t, at("10.2: Put of a later state of the 500th"), b.Put(api.Event{Uid: "499", Seq: 1}), api.OK)
	wantSaid(t, at("10.2: Put of an old state"), b.Put(api.Event{Uid: "499", Seq: 1}), api.ErrOld)
	wantSaid(t, at("10.2: Drop"), b.Drop("7", 3), api.OK)
	wantSaid(t, at("10.2: Put of the 500th"), b.Put(api.Event{Uid: "x"}), api.OK)
	wantSaid(t, at("10.2: Put of an old state ahead of the limit"), b.Put(api.Event{Uid: "7", Seq: 3}), api.ErrOld)
	wantSaid(t, at("10.2: Put of the 501st, that was dropped"), b.Put(api.Event{Uid: "7", Seq: 4}), api.ErrLimit)
	if n := len(b.Uids()); n != api.MaxEvents {
		t.Errorf("10.2: %d events", n)
	}
	l, err := b.Between(0, 1)
	wantValue(t, at("10.4: how many occasions there are"), len(l), err, api.MaxEvents)
}

// TestEventsAreFresh: the book has lists of its own, and hands out none of them.
func TestEventsAreFresh(t *testing.T) {
	in := full()
	b := bookOf(t, in)
	from, to := moment("2024-03-01T00:00"), moment("2024-06-01T00:00")
	ahead, err := b.Between(from, to)
	if err != nil || len(ahead) < 10 {
		t.Fatalf("10.4: Between: %v, %v", ahead, err)
	}
	spoil(in)
	first, _ := b.Get("full")
	second, _ := b.Get("full")
	wantEvent(t, at("P4: Get, once the event that was put was written into"), first, nil, full())
	spoil(first)
	wantEvent(t, at("P4: Get, once another answer was written into"), second, nil, full())
	grow(second)
	third, err := b.Get("full")
	wantEvent(t, at("P4: Get behind that"), third, err, full())
	again, err := b.Between(from, to)
	wantOccasions(t, at("P4: Between behind that"), again, err, ahead...)
}

// spoil writes into all lists of an event.
func spoil(e api.Event) {
	for _, l := range numbersOf(&e) {
		for i := range *l {
			(*l)[i] = -99
		}
	}
	for i := range e.Rule.Days {
		e.Rule.Days[i] = api.Nth{N: 99, Day: 99}
	}
	for _, l := range [][]api.Local{e.Out, e.In} {
		for i := range l {
			l[i] = -99
		}
	}
	for i := range e.Others {
		e.Others[i] = api.Other{Title: "spoilt"}
	}
}

// grow appends to all lists of an event.
func grow(e api.Event) {
	for _, l := range numbersOf(&e) {
		_ = append(*l, -99)
	}
	_ = append(e.Rule.Days, api.Nth{N: 99})
	_, _ = append(e.Out, -99), append(e.In, -99)
	_ = append(e.Others, api.Other{Title: "spoilt"})
}

func numbersOf(e *api.Event) []*[]int {
	r := &e.Rule
	return []*[]int{&r.Months, &r.Weeks, &r.YearDays, &r.MonthDays, &r.Hours, &r.Minutes, &r.Seconds, &r.Places}
}
