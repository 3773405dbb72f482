package zone_test

import (
	"testing"
	"time"
	_ "time/tzdata"

	"almanac/api"
)

// firstChange is the only change of a zone of offset 0 with this rule, which saves an hour once.
func firstChange(t *testing.T, rule string) api.Instant {
	t.Helper()
	l := mustParse(t, "rule q "+rule+" +01:00\nera +00:00 q").Changes(someEarly, someLate)
	if len(l) != 1 || l[0].Now != ahead(1, 1) {
		t.Fatalf("3.3: rule %q: changes %v; one by an hour is wanted", rule, l)
	}
	return l[0].At
}

// TestMonthDays: the days on which rules turn, also such as are of the month ahead, or behind.
func TestMonthDays(t *testing.T) {
	for _, k := range []struct {
		rule string
		want api.Instant
	}{
		{"2024 only 2 28 00:00w", moment(2024, 2, 28, 0, 0)}, {"2024 only 2 1 05:30w", moment(2024, 2, 1, 5, 30)}, {"2024 2024 12 28 24:00w", moment(2024, 12, 29, 0, 0)}, {"1 only 1 1 00:00w", moment(1, 1, 1, 0, 0)}, {"2500 max 12 last5 24:00w", moment(2501, 1, 1, 0, 0)},
		{"2024 only 2 last4 00:00w", moment(2024, 2, 29, 0, 0)}, {"2023 only 2 last3 00:00w", moment(2023, 2, 22, 0, 0)}, {"2024 only 3 last7 00:00w", moment(2024, 3, 31, 0, 0)}, {"2024 only 3 last1 00:00w", moment(2024, 3, 25, 0, 0)}, {"1900 only 2 last3 00:00w", moment(1900, 2, 28, 0, 0)},
		{"2024 only 3 7>=1 00:00w", moment(2024, 3, 3, 0, 0)}, {"2024 only 3 7>=3 00:00w", moment(2024, 3, 3, 0, 0)}, {"2024 only 3 7>=4 00:00w", moment(2024, 3, 10, 0, 0)}, {"2024 only 3 6>=3 00:00w", moment(2024, 3, 9, 0, 0)}, {"2024 only 3 1>=3 00:00w", moment(2024, 3, 4, 0, 0)},
		{"2023 only 2 7>=28 00:00w", moment(2023, 3, 5, 0, 0)}, {"2024 only 2 3>=28 24:00w", moment(2024, 2, 29, 0, 0)}, {"2024 only 12 5>=28 00:00w", moment(2025, 1, 3, 0, 0)},
		{"2024 only 3 7<=25 00:00w", moment(2024, 3, 24, 0, 0)}, {"2024 only 3 7<=24 00:00w", moment(2024, 3, 24, 0, 0)}, {"2024 only 3 7<=23 00:00w", moment(2024, 3, 17, 0, 0)}, {"2024 only 3 1<=24 00:00w", moment(2024, 3, 18, 0, 0)},
		{"2024 only 3 7<=2 00:00w", moment(2024, 2, 25, 0, 0)}, {"2024 only 1 7<=6 00:00w", moment(2023, 12, 31, 0, 0)}, {"1 only 1 7<=6 00:00w", moment(0, 12, 31, 0, 0)},
	} {
		if got := firstChange(t, k.rule); got != k.want {
			t.Errorf("3.3: rule %q turns at %d; %d is wanted", k.rule, got, k.want)
		}
	}
}

// TestYears: a rule turns in each of its years, and in no other.
func TestYears(t *testing.T) {
	z := mustParse(t, "rule q 2001 2003 5 1 00:00u +01:00\nrule q 2002 only 7 1 00:00u +00:30\nrule q 2003 max 9 1 00:00u -01:00\nera +00:00 q")
	half := api.Now{Offset: 1800, Save: 1800}
	wantList(t, at("3.3: rules of some years"), z.Changes(someEarly, moment(2500, 1, 1, 0, 0)), []api.Change{
		{At: moment(2001, 5, 1, 0, 0), Now: ahead(1, 1)}, {At: moment(2002, 7, 1, 0, 0), Now: half}, {At: moment(2003, 5, 1, 0, 0), Now: ahead(1, 1)}, {At: moment(2003, 9, 1, 0, 0), Now: ahead(-1, -1)},
	})
}

// wantChanges says whether a zone has just these changes.
func wantChanges(t *testing.T, what, text string, want ...api.Change) {
	t.Helper()
	wantList(t, at("3.3: %s: %q", what, text), mustParse(t, text).Changes(someEarly, someLate), want)
}

// TestHowTimesAreMeant: moments of turns with w, s, u, and of untils.
func TestHowTimesAreMeant(t *testing.T) {
	const first = "rule q 2001 only 5 1 03:00w +01:00\n"
	spring := api.Change{At: moment(2001, 5, 1, 1, 0), Now: ahead(3, 1)}
	for meant, hour := range map[string]int{"w": 9, "s": 10, "u": 12} {
		wantChanges(t, "a turn", first+"rule q 2001 only 9 1 12:00"+meant+" +02:00\nera +02:00 q", spring, api.Change{At: moment(2001, 9, 1, hour, 0), Now: ahead(4, 2)})
		wantChanges(t, "an until", first+"era +02:00 q until 2001 9 1 12:00"+meant+"\nera -05:00 -", spring, api.Change{At: moment(2001, 9, 1, hour, 0), Now: ahead(-5, 0)})
	}
	// The turn ahead of an until is one of its era, and that which is ahead by what is shown, though its moment be later.
	wantChanges(t, "an until and other rules' turns", "rule r 2001 only 5 1 00:00u +01:00\nrule q 2001 only 1 1 00:00u +03:00\nera +02:00 q until 2001 9 1 12:00w\nera -05:00 r",
		api.Change{At: moment(2001, 1, 1, 0, 0), Now: ahead(5, 3)}, api.Change{At: moment(2001, 9, 1, 7, 0), Now: ahead(-4, 1)})
	wantChanges(t, "an until and a turn that is shown with it", "rule q 2001 only 9 1 12:00w +03:00\nera +02:00 q until 2001 9 1 12:00w\nera -05:00 -",
		api.Change{At: moment(2001, 9, 1, 10, 0), Now: ahead(-5, 0)})
	wantChanges(t, "an until and a turn that is shown just ahead of it", "rule q 2001 only 9 1 11:59s +03:00\nera +02:00 q until 2001 9 1 12:00w\nera -05:00 -",
		api.Change{At: moment(2001, 9, 1, 7, 0), Now: ahead(-5, 0)})
	wantChanges(t, "an until at a day's end", "era +02:00 - until 2000 2 29 24:00s\nera +00:00 -", api.Change{At: moment(2000, 2, 29, 22, 0), Now: ahead(0, 0)})
}

// TestOrderOfTurns: by what is shown; of like ones by their lines.
func TestOrderOfTurns(t *testing.T) {
	day := moment(2001, 5, 1, 0, 0)
	wantChanges(t, "like turns", "rule q 2001 only 5 1 00:00u +01:00\nrule q 2001 only 5 1 00:00u +02:00\nera +00:00 q", api.Change{At: day, Now: ahead(2, 2)})
	wantChanges(t, "like turns, the other way round", "rule q 2001 only 5 1 00:00u +02:00\nrule q 2001 only 5 1 00:00u +01:00\nera +00:00 q", api.Change{At: day, Now: ahead(1, 1)})
	wantChanges(t, "a day's end and the next midnight", "rule q 2001 only 5 1 00:00u +02:00\nrule q 2001 only 4 last1 24:00u +01:00\nera +00:00 q", api.Change{At: day, Now: ahead(1, 1)})
	wantChanges(t, "what a like turn saves", "rule q 2001 only 5 1 06:00u +03:00\nrule q 2001 only 5 1 06:00w +01:00\nera +00:00 q", api.Change{At: day + 3*3600, Now: ahead(1, 1)})
	// The second turn's moment is ahead of the first one's: the first one never tells.
	wantChanges(t, "a moment ahead", "rule q 2001 only 5 1 06:00u +01:00\nrule q 2001 only 5 1 07:00s +02:00\nera +05:00 q", api.Change{At: day + 2*3600, Now: ahead(7, 2)})
	// Likewise, but a third turn's moment is between those: it tells as long as it is the last one in order.
	wantChanges(t, "three moments", "rule q 2001 only 5 1 01:00u +01:00\nrule q 2001 only 5 1 02:30s +02:00\nrule q 2001 only 5 1 03:00u +03:00\nera +02:00 q", api.Change{At: day + 1800, Now: ahead(4, 2)}, api.Change{At: day + 3*3600, Now: ahead(5, 3)})
}

// TestEras: the first one is in force whose until is behind the moment.
func TestEras(t *testing.T) {
	wantChanges(t, "clocks that go on as they went", "era +01:00 - until 2000 1 1 00:00u\nera +01:00 - until 2001 1 1 00:00u\nera +02:00 -", api.Change{At: moment(2001, 1, 1, 0, 0), Now: ahead(2, 0)})
	wantChanges(t, "the same offset, but saved", "rule q 1990 only 1 1 00:00u +01:00\nera +01:00 - until 2000 1 1 00:00u\nera +00:00 q", api.Change{At: moment(2000, 1, 1, 0, 0), Now: ahead(1, 1)})
	wantChanges(t, "an until whose moment is ahead of the one ahead", "era -12:00 - until 2000 1 1 00:00w\nera +12:00 - until 2000 1 1 06:00w\nera +00:00 -", api.Change{At: moment(2000, 1, 1, 12, 0), Now: ahead(0, 0)})
	wantChanges(t, "an until at the same moment", "era -12:00 - until 2000 1 1 00:00w\nera +12:00 - until 2000 1 2 00:00w\nera +00:00 -", api.Change{At: moment(2000, 1, 1, 12, 0), Now: ahead(0, 0)})
	// The era that is never in force stands between two that have turns all the time.
	wantChanges(t, "turns ahead of an era", "rule q 1990 1992 5 1 00:00u +01:00\nrule q 1990 1992 9 1 00:00u +00:00\nera +00:00 - until 1991 7 1 00:00u\nera +23:00 q until 1991 7 1 00:01w\nera +02:00 q until 1992 9 1 00:00u\nera +03:00 q",
		api.Change{At: moment(1991, 7, 1, 0, 0), Now: ahead(3, 1)}, api.Change{At: moment(1991, 9, 1, 0, 0), Now: ahead(2, 0)}, api.Change{At: moment(1992, 5, 1, 0, 0), Now: ahead(3, 1)}, api.Change{At: moment(1992, 9, 1, 0, 0), Now: ahead(3, 0)})
	z := mustParse(t, "rule q 1 max 12 last7 00:00u +01:00\nera -00:30 -")
	wantList(t, at("3.3: rules that no era names"), z.Changes(someEarly, someLate), nil)
	wantValue(t, at("3.3: rules that no era names"), z.At(0), nil, api.Now{Offset: -1800})
}

// TestLostDay: a day that is left out.
func TestLostDay(t *testing.T) {
	apia := mustParse(t, "era -10:00 - until 2011 12 29 24:00w\nera +14:00 -")
	change := moment(2011, 12, 30, 10, 0)
	for _, k := range []struct {
		l           api.Local
		early, late api.Instant
	}{
		{local(2011, 12, 30, 0, 0), change - api.Daily, change}, {local(2011, 12, 30, 12, 0), change - api.Daily/2, change + api.Daily/2}, {local(2011, 12, 31, 0, 0) - 1, change - 1, change + api.Daily - 1},
	} {
		wantList(t, at("3.4: Moments(%d)", k.l), apia.Moments(k.l), nil)
		early, err := apia.Resolve(k.l, api.Early)
		wantValue(t, at("3.5: Resolve(%d, Early)", k.l), early, err, k.early)
		late, err := apia.Resolve(k.l, api.Late)
		wantValue(t, at("3.5: Resolve(%d, Late)", k.l), late, err, k.late)
	}
}

// TestFirstChangeThatLeavesOut: clocks that go on and back within hours.
func TestFirstChangeThatLeavesOut(t *testing.T) {
	const rules = "rule q 2001 only 5 1 00:00u +02:00\nrule q 2001 only 5 1 01:00u +01:00\nrule q 2001 only 5 1 02:00u +04:00\nrule r 2001 only 5 1 00:00u +03:00\nrule r 2001 only 5 1 00:30u +01:00\nrule r 2001 only 5 1 01:00u +05:00\n"
	day := moment(2001, 5, 1, 0, 0)
	for _, k := range []struct {
		era               string
		hour, early, late int // of the day: behind its midnight
	}{
		// Shown are 00:00, then 02:00 to 03:00, the same again, then 06:00 on.
		{"era +00:00 q", 1, -1, 1}, {"era +00:00 q", 3, -1, 2}, {"era +00:00 q", 5, 1, 4},
		// Shown are 00:00, then 03:00 to 03:30, 01:30 to 02:00, then 06:00 on: 02:00 is left out by the first change, and again by the last one.
		{"era +00:00 r", 2, -1, 2}, {"era +00:00 r", 5, 0, 4},
	} {
		z := mustParse(t, rules+k.era)
		l := local(2001, 5, 1, k.hour, 0)
		wantList(t, at("3.4: %s: Moments(%d:00)", k.era, k.hour), z.Moments(l), nil)
		early, err := z.Resolve(l, api.Early)
		wantValue(t, at("3.5: %s: Resolve(%d:00, Early)", k.era, k.hour), early, err, day+api.Instant(3600*k.early))
		late, err := z.Resolve(l, api.Late)
		wantValue(t, at("3.5: %s: Resolve(%d:00, Late)", k.era, k.hour), late, err, day+api.Instant(3600*k.late))
	}
	z := mustParse(t, rules+"era +00:00 q")
	wantList(t, at("3.4: a time that is shown twice"), z.Moments(local(2001, 5, 1, 2, 0)), []api.Instant{day, day + 3600})
}

// TestPlaces holds places whose clocks Go's library knows against it.
func TestPlaces(t *testing.T) {
	for _, k := range []struct {
		name, text string
		from       int
	}{
		{"Europe/Berlin", "rule EU 1977 1980 4 7>=1 01:00u +01:00\nrule EU 1981 max 3 last7 01:00u +01:00\nrule EU 1979 1995 9 last7 01:00u +00:00\nrule EU 1996 max 10 last7 01:00u +00:00\nera +01:00 EU", 1981},
		{"Europe/Dublin", "rule Eire 1981 max 3 last7 01:00u +00:00\nrule Eire 1996 max 10 last7 01:00u -01:00\nera +01:00 Eire", 1997},
		{"America/New_York", "rule US 1967 2006 10 last7 02:00w +00:00\nrule US 1967 1973 4 last7 02:00w +01:00\nrule US 1974 only 1 6 02:00w +01:00\nrule US 1975 only 2 last7 02:00w +01:00\nrule US 1976 1986 4 last7 02:00w +01:00\nrule US 1987 2006 4 7>=1 02:00w +01:00\nrule US 2007 max 3 7>=8 02:00w +01:00\nrule US 2007 max 11 7>=1 02:00w +00:00\nera -05:00 US", 1968},
		{"Australia/Sydney", "rule AN 2001 2007 10 last7 02:00s +01:00\nrule AN 2002 2005 3 last7 02:00s +00:00\nrule AN 2006 only 4 7>=1 02:00s +00:00\nrule AN 2007 only 3 last7 02:00s +00:00\nrule AN 2008 max 4 7>=1 02:00s +00:00\nrule AN 2008 max 10 7>=1 02:00s +01:00\nera +10:00 AN", 2002},
		{"Australia/Lord_Howe", "rule LH 2008 max 4 7>=1 02:00w +00:00\nrule LH 2008 max 10 7>=1 02:00w +00:30\nera +10:30 LH", 2009},
		{"Asia/Kathmandu", "era +05:30 - until 1986 1 1 00:00w\nera +05:45 -", 1950},
		{"Pacific/Apia", "rule WS 2010 only 9 last7 00:00w +01:00\nrule WS 2011 only 4 6>=1 04:00w +00:00\nrule WS 2011 only 9 last6 03:00w +01:00\nrule WS 2012 2021 4 7>=1 04:00w +00:00\nrule WS 2012 2020 9 last7 03:00w +01:00\nera -11:00 WS until 2011 12 29 24:00w\nera +13:00 WS", 1960},
	} {
		place, err := time.LoadLocation(k.name)
		if err != nil {
			t.Fatal(err)
		}
		z := mustParse(t, k.text)
		first, ahead := moment(k.from, 1, 1, 0, 0), 0
		for x := first; x < moment(2060, 1, 1, 0, 0) && !t.Failed(); x += 1800 {
			_, want := time.Unix(int64(x), 0).In(place).Zone()
			wantValue(t, at("3.3: %s: At(%d)", k.name, x), z.At(x).Offset, nil, want)
			if ahead != want && x > first {
				wantValue(t, at("3.3: %s: At(%d), just ahead of a change", k.name, x-1), z.At(x-1).Offset, nil, ahead)
			}
			ahead = want
		}
	}
}
