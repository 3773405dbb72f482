package rule_test

import (
	"math"
	"slices"
	"strings"
	"testing"

	"almanac/api"
	"almanac/days"
	"almanac/rule"
)

// Promises 6.2 and 6.3, by rules whose times are known.

// wantFirst says whether the first times of a rule are these, written with blanks between; a date alone has the start's clock. A `.` behind them: there are no more.
func wantFirst(t *testing.T, text, start, times string) {
	t.Helper()
	s := local(start)
	words := strings.Fields(times)
	ends := len(words) > 0 && words[len(words)-1] == "."
	if ends {
		words = words[:len(words)-1]
	}
	var want []api.Local
	for _, w := range words {
		if !strings.Contains(w, "T") {
			w += start[strings.Index(start, "T"):]
		}
		want = append(want, local(w))
	}
	most := len(want)
	if ends {
		most = math.MaxInt
	}
	wantTimes(t, at("%s from %s on", text, start), all(t, read(t, text), s, most), want)
}

func TestDaysAndWeeks(t *testing.T) {
	const start = "1997-09-02T09:00" // a Tuesday
	wantFirst(t, "FREQ=DAILY;COUNT=4", start, "1997-09-02 1997-09-03 1997-09-04 1997-09-05 .")
	wantFirst(t, "FREQ=DAILY;INTERVAL=10;COUNT=5", start, "1997-09-02 1997-09-12 1997-09-22 1997-10-02 1997-10-12 .")
	wantFirst(t, "FREQ=DAILY;UNTIL=19970905T085959", start, "1997-09-02 1997-09-03 1997-09-04 .")
	wantFirst(t, "FREQ=DAILY;UNTIL=19970905T090000", start, "1997-09-02 1997-09-03 1997-09-04 1997-09-05 .")
	wantFirst(t, "FREQ=DAILY;UNTIL=19970902T085959", start, ".")
	wantFirst(t, "FREQ=DAILY;UNTIL=19700101", start, ".")
	wantFirst(t, "FREQ=DAILY;BYMONTH=1;INTERVAL=100", "1998-01-01T09:00", "1998-01-01 2001-01-05")
	wantFirst(t, "FREQ=WEEKLY", start, "1997-09-02 1997-09-09 1997-09-16")
	wantFirst(t, "FREQ=WEEKLY;BYDAY=MO", start, "1997-09-08 1997-09-15 1997-09-22") // the start is none of these
	wantFirst(t, "FREQ=WEEKLY;INTERVAL=2;BYDAY=MO", start, "1997-09-15 1997-09-29")
	wantFirst(t, "FREQ=WEEKLY;INTERVAL=2;WKST=SU;BYDAY=MO,WE,FR;UNTIL=19971003", "1997-09-01T09:00", "1997-09-01 1997-09-03 1997-09-05 1997-09-15 1997-09-17 1997-09-19 1997-09-29 1997-10-01 .")
	wantFirst(t, "FREQ=WEEKLY;INTERVAL=2;COUNT=4;BYDAY=TU,SU;WKST=MO", "1997-08-05T09:00", "1997-08-05 1997-08-10 1997-08-19 1997-08-24 .")
	wantFirst(t, "FREQ=WEEKLY;INTERVAL=2;COUNT=4;BYDAY=TU,SU;WKST=SU", "1997-08-05T09:00", "1997-08-05 1997-08-17 1997-08-19 1997-08-31 .")
	wantFirst(t, "FREQ=WEEKLY;BYMONTH=1", start, "1998-01-06 1998-01-13 1998-01-20 1998-01-27 1999-01-05")
	wantFirst(t, "FREQ=DAILY;BYMONTH=1;BYMONTHDAY=-1,30", start, "1998-01-30 1998-01-31 1999-01-30")
}

func TestMonths(t *testing.T) {
	const start = "1997-09-02T09:00"
	wantFirst(t, "FREQ=MONTHLY;COUNT=10;BYDAY=1FR", "1997-09-05T09:00", "1997-09-05 1997-10-03 1997-11-07 1997-12-05 1998-01-02 1998-02-06 1998-03-06 1998-04-03 1998-05-01 1998-06-05 .")
	wantFirst(t, "FREQ=MONTHLY;INTERVAL=2;COUNT=10;BYDAY=1SU,-1SU", "1997-09-07T09:00", "1997-09-07 1997-09-28 1997-11-02 1997-11-30 1998-01-04 1998-01-25 1998-03-01 1998-03-29 1998-05-03 1998-05-31 .")
	wantFirst(t, "FREQ=MONTHLY;COUNT=6;BYDAY=-2MO", start, "1997-09-22 1997-10-20 1997-11-17 1997-12-22 1998-01-19 1998-02-16 .")
	wantFirst(t, "FREQ=MONTHLY;BYDAY=5MO", start, "1997-09-29 1997-12-29 1998-03-30")
	wantFirst(t, "FREQ=MONTHLY;BYDAY=-5MO", start, "1997-12-01 1998-03-02 1998-06-01")
	wantFirst(t, "FREQ=MONTHLY;BYDAY=6MO", start, ".")
	wantFirst(t, "FREQ=MONTHLY;BYMONTHDAY=-3", start, "1997-09-28 1997-10-29 1997-11-28 1997-12-29 1998-01-29 1998-02-26")
	wantFirst(t, "FREQ=MONTHLY;COUNT=5;BYMONTHDAY=15,1,-1", start, "1997-09-15 1997-09-30 1997-10-01 1997-10-15 1997-10-31 .")
	wantFirst(t, "FREQ=MONTHLY;INTERVAL=18;COUNT=10;BYMONTHDAY=10,11,12,13,14,15", "1997-09-10T09:00", "1997-09-10 1997-09-11 1997-09-12 1997-09-13 1997-09-14 1997-09-15 1999-03-10 1999-03-11 1999-03-12 1999-03-13 .")
	wantFirst(t, "FREQ=MONTHLY;BYDAY=FR;BYMONTHDAY=13", start, "1998-02-13 1998-03-13 1998-11-13 1999-08-13 2000-10-13")
	wantFirst(t, "FREQ=MONTHLY;COUNT=5;BYMONTHDAY=15,30", "2007-01-15T09:00", "2007-01-15 2007-01-30 2007-02-15 2007-03-15 2007-03-30 .")
	wantFirst(t, "FREQ=MONTHLY", "2024-01-31T09:00", "2024-01-31 2024-03-31 2024-05-31 2024-07-31 2024-08-31 2024-10-31")
	wantFirst(t, "FREQ=MONTHLY;BYMONTH=2,3", "2024-01-30T09:00", "2024-03-30 2025-03-30")
	wantFirst(t, "FREQ=MONTHLY;BYMONTH=2;BYMONTHDAY=30", start, ".")
}

func TestYears(t *testing.T) {
	wantFirst(t, "FREQ=YEARLY", "1997-06-10T09:00", "1997-06-10 1998-06-10 1999-06-10")
	wantFirst(t, "FREQ=YEARLY", "2096-02-29T09:00", "2096-02-29 2104-02-29 2108-02-29")
	wantFirst(t, "FREQ=YEARLY;COUNT=5;BYMONTH=7,6", "1997-06-10T09:00", "1997-06-10 1997-07-10 1998-06-10 1998-07-10 1999-06-10 .")
	wantFirst(t, "FREQ=YEARLY;INTERVAL=2;COUNT=7;BYMONTH=1,2,3", "1997-03-10T09:00", "1997-03-10 1999-01-10 1999-02-10 1999-03-10 2001-01-10 2001-02-10 2001-03-10 .")
	wantFirst(t, "FREQ=YEARLY;INTERVAL=3;COUNT=10;BYYEARDAY=1,100,200", "1997-01-01T09:00", "1997-01-01 1997-04-10 1997-07-19 2000-01-01 2000-04-09 2000-07-18 2003-01-01 2003-04-10 2003-07-19 2006-01-01 .")
	wantFirst(t, "FREQ=YEARLY;BYYEARDAY=366,-366", "1997-01-01T09:00", "2000-01-01 2000-12-31 2004-01-01")
	wantFirst(t, "FREQ=YEARLY;BYDAY=20MO", "1997-05-19T09:00", "1997-05-19 1998-05-18 1999-05-17")
	wantFirst(t, "FREQ=YEARLY;BYDAY=-1SU,53MO", "2000-01-01T09:00", "2000-12-31 2001-12-30 2001-12-31 2002-12-29")
	wantFirst(t, "FREQ=YEARLY;BYMONTH=3;BYDAY=TH", "1997-03-13T09:00", "1997-03-13 1997-03-20 1997-03-27 1998-03-05 1998-03-12 1998-03-19 1998-03-26 1999-03-04")
	wantFirst(t, "FREQ=YEARLY;BYMONTH=4;BYDAY=1SU", "1997-01-01T09:00", "1997-04-06 1998-04-05 1999-04-04")
	wantFirst(t, "FREQ=YEARLY;BYMONTHDAY=13;BYDAY=FR", "1997-09-02T09:00", "1998-02-13 1998-03-13 1998-11-13")
	wantFirst(t, "FREQ=YEARLY;INTERVAL=4;BYMONTH=11;BYDAY=TU;BYMONTHDAY=2,3,4,5,6,7,8", "1996-11-05T09:00", "1996-11-05 2000-11-07 2004-11-02 2008-11-04")
}

func TestWeeksOfYears(t *testing.T) {
	wantFirst(t, "FREQ=YEARLY;BYWEEKNO=20;BYDAY=MO", "1997-05-12T09:00", "1997-05-12 1998-05-11 1999-05-17")
	wantFirst(t, "FREQ=YEARLY;BYWEEKNO=20", "1997-05-15T09:00", "1997-05-15 1998-05-14 1999-05-20")
	// 2020 and 2026 have 53 weeks; the last days of 2024 and 2025 are of the first week of the next year.
	wantFirst(t, "FREQ=YEARLY;BYWEEKNO=53;BYDAY=MO,SU", "2019-01-01T09:00", "2020-12-28 2021-01-03 2026-12-28 2027-01-03")
	wantFirst(t, "FREQ=YEARLY;BYWEEKNO=-1;BYDAY=FR", "2019-01-01T09:00", "2019-12-27 2021-01-01 2021-12-31 2022-12-30")
	wantFirst(t, "FREQ=YEARLY;BYWEEKNO=1;BYDAY=MO", "2024-01-01T09:00", "2024-01-01 2024-12-30 2025-12-29 2027-01-04")
	wantFirst(t, "FREQ=YEARLY;BYWEEKNO=-53;BYDAY=MO", "2019-01-01T09:00", "2019-12-30 2025-12-29")
	// Such days are of the year in which they are, whose period counts or not.
	wantFirst(t, "FREQ=YEARLY;INTERVAL=2;BYWEEKNO=1;BYDAY=MO", "2024-01-01T09:00", "2024-01-01 2024-12-30 2028-01-03")
	wantFirst(t, "FREQ=YEARLY;INTERVAL=2;BYWEEKNO=53;BYDAY=MO,SU", "2020-01-01T09:00", "2020-12-28 2026-12-28 2032-12-27")
	// Weeks that begin with a Sunday: the first one of 2025 begins on 29 December 2024.
	wantFirst(t, "FREQ=YEARLY;BYWEEKNO=1;BYDAY=SU;WKST=SU", "2024-06-01T09:00", "2024-12-29 2026-01-04 2027-01-03")
	wantFirst(t, "FREQ=YEARLY;BYWEEKNO=1;BYDAY=SU", "2024-06-01T09:00", "2025-01-05 2026-01-04 2027-01-10")
	wantFirst(t, "FREQ=YEARLY;BYWEEKNO=1,2;BYMONTH=12", "2024-01-01T09:00", "2024-12-30 2025-12-29 2029-12-31")
}

func TestOtherCalendars(t *testing.T) {
	wantFirst(t, "RSCALE=HEBREW;FREQ=YEARLY;BYMONTH=8;BYMONTHDAY=15", "2024-01-01T00:00", "2024-04-23 2025-05-13 2026-05-02")
	wantFirst(t, "RSCALE=HEBREW;FREQ=YEARLY;BYMONTH=1;BYMONTHDAY=1", "2023-01-01T00:00", "2023-09-16 2024-10-03 2025-09-23")
	wantFirst(t, "RSCALE=COPTIC;FREQ=YEARLY;BYMONTH=13;BYMONTHDAY=6", "2020-01-01T00:00", "2023-09-11 2027-09-11")
	wantFirst(t, "RSCALE=JULIAN;FREQ=YEARLY", "2024-01-07T12:00", "2024-01-07 2025-01-07 2026-01-07")
	wantFirst(t, "RSCALE=SAKA;FREQ=MONTHLY", "2024-03-21T12:00", "2024-03-21 2024-04-21 2024-05-22")
	// Months are counted from the start's on: of 5784, a leap year, thirteen.
	wantFirst(t, "RSCALE=HEBREW;FREQ=MONTHLY;INTERVAL=13", "2023-09-16T00:00", "2023-09-16 2024-10-03 2025-10-23")
	// Weeks are the same in all calendars.
	wantFirst(t, "RSCALE=ISLAMIC;FREQ=WEEKLY;INTERVAL=2", "2024-07-08T12:00", "2024-07-08 2024-07-22 2024-08-05")
}

func TestClocks(t *testing.T) {
	wantFirst(t, "FREQ=HOURLY;INTERVAL=3;UNTIL=19970902T170000", "1997-09-02T09:00", "1997-09-02T09:00 1997-09-02T12:00 1997-09-02T15:00 .")
	wantFirst(t, "FREQ=HOURLY", "2024-07-08T22:59:58", "2024-07-08T22:59:58 2024-07-08T23:59:58 2024-07-09T00:59:58")
	wantFirst(t, "FREQ=HOURLY;INTERVAL=5;BYHOUR=0,1,2", "2024-07-08T22:10", "2024-07-11T00:10 2024-07-12T01:10 2024-07-13T02:10 2024-07-16T00:10")
	wantFirst(t, "FREQ=HOURLY;INTERVAL=1000", "2024-07-08T22:10", "2024-07-08T22:10 2024-08-19T14:10 2024-09-30T06:10")
	wantFirst(t, "FREQ=HOURLY;BYMINUTE=45,0,0;BYSECOND=7", "2024-07-08T22:30", "2024-07-08T22:45:07 2024-07-08T23:00:07 2024-07-08T23:45:07")
	wantFirst(t, "FREQ=HOURLY;BYDAY=TU;BYMONTHDAY=9", "2024-07-08T22:30", "2024-07-09T00:30 2024-07-09T01:30 2024-07-09T02:30")
	wantFirst(t, "FREQ=DAILY;BYHOUR=17,9;BYMINUTE=30,0", "2024-07-08T09:10:05", "2024-07-08T09:30:05 2024-07-08T17:00:05 2024-07-08T17:30:05 2024-07-09T09:00:05")
	wantFirst(t, "FREQ=DAILY;BYSECOND=59,0", "2024-07-08T09:10:05", "2024-07-08T09:10:59 2024-07-09T09:10:00 2024-07-09T09:10:59")
	wantFirst(t, "FREQ=YEARLY;BYHOUR=0,23", "2024-07-08T12:00", "2024-07-08T23:00 2025-07-08T00:00 2025-07-08T23:00")
	wantFirst(t, "FREQ=DAILY;COUNT=3;BYHOUR=9,9,9;BYMINUTE=0,0", "2024-07-08T09:00", "2024-07-08T09:00 2024-07-09T09:00 2024-07-10T09:00 .")
}

func TestPlaces(t *testing.T) {
	wantFirst(t, "FREQ=MONTHLY;COUNT=3;BYDAY=TU,WE,TH;BYSETPOS=3", "1997-09-04T09:00", "1997-09-04 1997-10-07 1997-11-06 .")
	wantFirst(t, "FREQ=MONTHLY;BYDAY=MO,TU,WE,TH,FR;BYSETPOS=-2", "1997-09-29T09:00", "1997-09-29 1997-10-30 1997-11-27 1997-12-30 1998-01-29 1998-02-26 1998-03-30")
	// Places are counted in the whole period, also ahead of the start, behind Until, and behind the last day.
	wantFirst(t, "FREQ=MONTHLY;BYDAY=MO;BYSETPOS=1", "2024-07-08T09:00", "2024-08-05 2024-09-02")
	wantFirst(t, "FREQ=MONTHLY;BYDAY=MO;BYSETPOS=2", "2024-07-08T09:00", "2024-07-08 2024-08-12")
	wantFirst(t, "FREQ=MONTHLY;BYDAY=MO;BYSETPOS=-1,-2;UNTIL=20240823", "2024-07-08T09:00", "2024-07-22 2024-07-29 2024-08-19 .")
	wantFirst(t, "FREQ=YEARLY;INTERVAL=30;BYDAY=MO;BYSETPOS=-1,1", "2024-07-08T09:00", "2024-12-30 2054-01-05 .")
	wantFirst(t, "FREQ=WEEKLY;BYDAY=MO,FR;BYSETPOS=1", "2024-07-10T09:00", "2024-07-15 2024-07-22")
	wantFirst(t, "FREQ=WEEKLY;BYDAY=MO,FR;BYSETPOS=1;WKST=TH", "2024-07-08T09:00", "2024-07-12 2024-07-19")
	wantFirst(t, "FREQ=DAILY;BYHOUR=6,12,18;BYMINUTE=0,30;BYSETPOS=-1,1,-6,4,7", "2024-07-08T09:00", "2024-07-08T12:30 2024-07-08T18:30 2024-07-09T06:00 2024-07-09T12:30")
	wantFirst(t, "FREQ=HOURLY;BYMINUTE=0,20,40;BYSETPOS=2", "2024-07-08T09:30", "2024-07-08T10:20 2024-07-08T11:20")
	wantFirst(t, "FREQ=YEARLY;BYYEARDAY=1,2,3;BYSETPOS=4", "2024-01-01T09:00", ".")
	wantFirst(t, "FREQ=DAILY;BYSETPOS=2", "2024-01-01T09:00", ".")
	wantFirst(t, "FREQ=DAILY;INTERVAL=4;BYSETPOS=-1", "2024-01-01T09:00", "2024-01-01 2024-01-05")
}

func TestCountOfTimes(t *testing.T) {
	// Times ahead of the start are none, and are not counted.
	wantFirst(t, "FREQ=MONTHLY;COUNT=2;BYMONTHDAY=1,20", "2024-07-08T09:00", "2024-07-20 2024-08-01 .")
	wantFirst(t, "FREQ=DAILY;COUNT=3;BYHOUR=8,9,10", "2024-07-08T09:00", "2024-07-08T09:00 2024-07-08T10:00 2024-07-09T08:00 .")
	wantFirst(t, "FREQ=DAILY;COUNT=3;UNTIL=20240709T090000", "2024-07-08T09:00", "2024-07-08 2024-07-09 .")
	if n := len(all(t, read(t, "FREQ=HOURLY;COUNT=10000"), 0, math.MaxInt)); n != 10_000 {
		t.Errorf("6.2: %d times; 10000 are wanted", n)
	}
}

func TestHorizon(t *testing.T) {
	for _, day := range []int{margin - api.MaxDay, -1, 0, 19_999, api.MaxDay - margin} {
		start := api.Local(day*api.Daily + 12*3600)
		l := all(t, daily(), start, math.MaxInt)
		if len(l) != 10_958 || l[10_957] != start+10_957*api.Daily {
			t.Errorf("6.2: each day from day %d on: %d times, the last one %d", day, len(l), l[len(l)-1])
		}
		// On the last day all times are there, also those later than the start's clock.
		late := with(func(r *api.Rule) { r.Hours, r.Minutes, r.Seconds = []int{23}, []int{59}, []int{59} })
		l = all(t, late, start, math.MaxInt)
		if want := api.Local((day+10_957)*api.Daily + 86_399); len(l) != 10_958 || l[10_957] != want {
			t.Errorf("6.2: each day's last second from day %d on: %d times, the last one %d", day, len(l), l[len(l)-1])
		}
		l = all(t, with(func(r *api.Rule) { r.Freq, r.Every = api.Hourly, 24 }), start, math.MaxInt)
		if len(l) != 10_958 {
			t.Errorf("6.2: each 24 hours from day %d on: %d times", day, len(l))
		}
		unlike := with(func(r *api.Rule) { r.Ends, r.Until = true, lastTime })
		if l = all(t, unlike, start, math.MaxInt); len(l) != 10_958 {
			t.Errorf("6.2: each day until the last time from day %d on: %d times", day, len(l))
		}
	}
}

// TestEachCalendarsYears: what comes each year comes on the day that has the start's date, wherever there is one.
func TestEachCalendarsYears(t *testing.T) {
	for cal := api.Gregorian; cal <= api.Egyptian; cal++ {
		for _, day := range []int{-700_000, 19_999, 19_999 + 59, 19_999 + 150} {
			d, err := days.Of(cal, day)
			if err != nil {
				t.Fatal(err)
			}
			var want []api.Local
			for year := d.Year; ; year++ {
				n, err := days.Day(api.Date{Cal: cal, Year: year, Month: d.Month, Day: d.Day})
				if err == nil && n > day+api.Horizon {
					break
				}
				if err == nil {
					want = append(want, api.Local(n*api.Daily+5))
				}
			}
			r := with(func(r *api.Rule) { r.Cal, r.Freq = cal, api.Yearly })
			wantTimes(t, at("each year of calendar %d from day %d on", cal, day), all(t, r, api.Local(day*api.Daily+5), math.MaxInt), want)
		}
	}
}

func TestListsInAnyOrder(t *testing.T) {
	a := read(t, "FREQ=YEARLY;BYMONTH=3,1,2,1,3;BYMONTHDAY=5,-1,1,5;BYDAY=FR,MO,TU,MO,FR;BYHOUR=9,7,9;BYMINUTE=30,0,30;BYSECOND=1,0,1;BYSETPOS=-1,3,1,3,-1")
	b := read(t, "FREQ=YEARLY;BYMONTH=1,2,3;BYMONTHDAY=-1,1,5;BYDAY=MO,TU,FR;BYHOUR=7,9;BYMINUTE=0,30;BYSECOND=0,1;BYSETPOS=1,3,-1")
	l := all(t, a, 0, math.MaxInt)
	wantTimes(t, at("6.1: lists that have something twice"), l, all(t, b, 0, math.MaxInt))
	if len(l) == 0 || !slices.IsSorted(l) {
		t.Errorf("6.4: times out of order: %v", l)
	}
	a = read(t, "FREQ=YEARLY;BYWEEKNO=2,-1,2,1;BYYEARDAY=4,-2,1,4,9,10,12")
	b = read(t, "FREQ=YEARLY;BYWEEKNO=-1,1,2;BYYEARDAY=-2,1,4,9,10,12")
	wantTimes(t, at("6.1: lists that have something twice"), all(t, a, 0, math.MaxInt), all(t, b, 0, math.MaxInt))
}

func TestBetweenHasNoTimesTwice(t *testing.T) {
	for _, text := range []string{"FREQ=HOURLY;INTERVAL=7", "FREQ=WEEKLY;INTERVAL=3;BYDAY=MO,SU;BYSETPOS=-1", "FREQ=YEARLY;INTERVAL=3;BYYEARDAY=1,-1;BYSETPOS=2"} {
		r := read(t, text)
		whole := all(t, r, 12345, math.MaxInt)
		var joined []api.Local
		for from := api.Local(-100 * api.Daily); from < 12_000*api.Daily; from += 100 * api.Daily {
			l, err := rule.Between(r, 12345, from, from+100*api.Daily)
			if err != nil {
				t.Fatal(err)
			}
			joined = append(joined, l...)
		}
		wantTimes(t, at("%s in pieces", text), joined, whole)
	}
}
