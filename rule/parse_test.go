package rule_test

import (
	"math/rand"
	"strings"
	"testing"

	"almanac/api"
	"almanac/rule"
)

// Promise 6.6.

func TestParse(t *testing.T) {
	ends := func(until string) api.Rule {
		return with(func(r *api.Rule) { r.Ends, r.Until = true, local(until) })
	}
	for text, want := range map[string]api.Rule{
		"FREQ=DAILY": daily(),
		"WKST=MO;BYSETPOS=-1;COUNT=10000;INTERVAL=1000;RSCALE=GREGORIAN;FREQ=DAILY": with(func(r *api.Rule) { r.Places, r.Count, r.Every = []int{-1}, 10_000, 1000 }),
		"BYDAY=-53MO,SU,53WE,1TU;FREQ=MONTHLY;WKST=SU":                              {Cal: api.Gregorian, Freq: api.Monthly, Every: 1, First: 7, Days: nths(-53, 1, 0, 7, 53, 3, 1, 2)},
		"BYSECOND=0,59;BYMINUTE=0,0;BYHOUR=23;FREQ=DAILY":                           with(func(r *api.Rule) { r.Seconds, r.Minutes, r.Hours = []int{0, 59}, []int{0, 0}, []int{23} }),
		"FREQ=DAILY;UNTIL=20240810T093000":                                          ends("2024-08-10T09:30"),
		"FREQ=DAILY;UNTIL=2024-08-10T09:30:00":                                      ends("2024-08-10T09:30"),
		"FREQ=DAILY;UNTIL=20240810":                                                 ends("2024-08-10T00:00"),
		"FREQ=DAILY;UNTIL=20240810T0930":                                            ends("2024-08-10T09:30"),
		"FREQ=DAILY;UNTIL=2024W326T2400":                                            ends("2024-08-11T00:00"),
		"FREQ=DAILY;UNTIL=19700101":                                                 ends("1970-01-01T00:00"),
	} {
		got, err := rule.Parse(text)
		wantValue(t, at("6.6: Parse(%q)", text), got, err, want)
	}
}

// TestFaults: the first fault is told at the part's first byte, and nothing is read.
func TestFaults(t *testing.T) {
	for want, l := range map[api.Errno][]string{
		api.ErrForm: {
			"", "x", "INTERVAL", "BYDAY", " ", "\x00",
			"INTERVAL=", "INTERVAL=x", "INTERVAL=01", "INTERVAL=00", "INTERVAL=-0", "INTERVAL=-01", "INTERVAL=+1", "INTERVAL= 1", "INTERVAL=1 ", "INTERVAL=1.0", "INTERVAL=1_0", "INTERVAL=0x1", "INTERVAL=1e1", "INTERVAL=-", "INTERVAL=--1", "INTERVAL=1-", "INTERVAL=1,2", "INTERVAL==1", "INTERVAL=1=", "INTERVAL=1000000", "INTERVAL=-100000", "INTERVAL=99999999999999999999", "INTERVAL=\u0661",
			"COUNT=", "COUNT=x", "COUNT=00", "COUNT=-0", "COUNT=1000000", "COUNT=01",
			"BYMONTH=", "BYMONTH=,", "BYMONTH=1,", "BYMONTH=,1", "BYMONTH=1,,2", "BYMONTH=1, 2", "BYMONTH=JAN", "BYMONTH=1,02", "BYMONTH=1,-0", "BYMONTH=99,1000000",
			"BYWEEKNO=x", "BYYEARDAY=+1", "BYMONTHDAY=-01", "BYHOUR=", "BYHOUR=09", "BYMINUTE=00", "BYSECOND=1.5", "BYSETPOS=-0", "BYSETPOS=-100000",
			"BYDAY=", "BYDAY=,", "BYDAY=MO,", "BYDAY=M", "BYDAY=1", "BYDAY=XX", "BYDAY=mo", "BYDAY=Mo", "BYDAY=MON", "BYDAY=MO1", "BYDAY=1 MO", "BYDAY= MO", "BYDAY=+1MO", "BYDAY=01MO", "BYDAY=-0MO", "BYDAY=00MO", "BYDAY=-MO", "BYDAY=1000000MO", "BYDAY=-100000MO", "BYDAY=xMO", "BYDAY=1XX", "BYDAY=MO,TU,XX",
			"BYDAY=0XX", "BYDAY=XX,0MO", "BYDAY=0MO,XX", "BYDAY=0MO,01TU", // what is not of the form is told ahead of an N that is 0
			"WKST=", "WKST=XX", "WKST=1", "WKST=mo", "WKST=1MO", "WKST=MO,TU", "WKST=MO TU", "WKST= MO",
			"UNTIL=", "UNTIL=x", "UNTIL=20240810T093000Z", "UNTIL=20240810T093000+0100", "UNTIL=20240810T093000-0000", "UNTIL=2024-08-10T09:30:00+00:00", "UNTIL=20240810T", "UNTIL=20240810T0930001", "UNTIL=2024-0810", "UNTIL=20240810 ", "UNTIL=2024081x",
		},
		api.ErrExists: {"FREQ=DAILY", "FREQ=", "FREQ=x", "FREQ=YEARLY"},
		api.ErrName:   {"X=1", "=1", "=", "freq=DAILY", "FREQ =DAILY", " INTERVAL=1", "BYEASTER=1", "BYMONTH =1", "\nINTERVAL=1", "BYWEEK=1", "RSCAL=HEBREW", "BYDAYS=MO"},
		api.ErrCal:    {"RSCALE=", "RSCALE=MARS", "RSCALE=Hebrew", "RSCALE=HEBREW ", "RSCALE= HEBREW", "RSCALE=1", "RSCALE=GREGORIAN JULIAN", "RSCALE=HEBREW,JULIAN"},
		api.ErrArg:    {"COUNT=0", "BYDAY=0MO", "BYDAY=1MO,0TU", "BYDAY=0TU,MO"},
		api.ErrDate:   {"UNTIL=20240230", "UNTIL=20240230Z", "UNTIL=20241301T000000", "UNTIL=20240810T250000", "UNTIL=20240810T240001", "UNTIL=20240810T096000Z", "UNTIL=2024366T126000", "UNTIL=20240810T093000+2400"},
		api.ErrRange:  {"UNTIL=+209990101", "UNTIL=-20240810", "UNTIL=-200010101", "UNTIL=+129210819", "UNTIL=-089820516", "UNTIL=+129210818T240000"},
	} {
		for _, part := range l {
			name, _, _ := strings.Cut(part, "=")
			for _, ahead := range []string{"FREQ=DAILY;", "BYMONTHDAY=99;FREQ=DAILY;BYSETPOS=1,-1,999999;"} {
				if want != api.ErrExists && strings.Contains(";"+ahead, ";"+name+"=") {
					continue
				}
				// What is wrong behind it, or only Check tells, is told later.
				for _, behind := range []string{"", ";x", ";FREQ=DAILY;X=1", ";"} {
					text := ahead + part + behind
					got, err := rule.Parse(text)
					wantPlace(t, at("6.6: Parse(%q)", text), got, err, want, len(ahead))
				}
			}
		}
	}
}

func TestFaultsOfTheFirstPart(t *testing.T) {
	for text, want := range map[string]api.Errno{
		"": api.ErrForm, ";FREQ=DAILY": api.ErrForm, "DAILY": api.ErrForm, "FREQ": api.ErrForm,
		"FREQ=": api.ErrForm, "FREQ=SECONDLY": api.ErrForm, "FREQ=MINUTELY": api.ErrForm, "FREQ=daily": api.ErrForm, "FREQ=Daily": api.ErrForm, "FREQ= DAILY": api.ErrForm, "FREQ=DAILY ": api.ErrForm, "FREQ=2": api.ErrForm, "FREQ=DAILY=": api.ErrForm, "FREQ==DAILY": api.ErrForm, "FREQ=DAILY,WEEKLY": api.ErrForm, "FREQ=DAILY WEEKLY": api.ErrForm,
		"FREQ=X;FREQ=DAILY": api.ErrForm,
		"X=1;X=2":           api.ErrName,
		"=DAILY":            api.ErrName,
	} {
		got, err := rule.Parse(text)
		wantPlace(t, at("6.6: Parse(%q)", text), got, err, want, 0)
	}
	got, err := rule.Parse("FREQ=DAILY;")
	wantPlace(t, at("6.6: a part that is empty at the end"), got, err, api.ErrForm, 11)
	got, err = rule.Parse("FREQ=DAILY;;COUNT=1")
	wantPlace(t, at("6.6: a part that is empty"), got, err, api.ErrForm, 11)
	got, err = rule.Parse("COUNT=1;FREQ=DAILY;COUNT=1")
	wantPlace(t, at("6.6: a part twice"), got, err, api.ErrExists, 19)
}

func TestEachPartOnce(t *testing.T) {
	for _, part := range []string{"RSCALE=HEBREW", "FREQ=YEARLY", "INTERVAL=1", "COUNT=1", "UNTIL=20240810", "BYMONTH=1", "BYWEEKNO=1", "BYYEARDAY=1", "BYMONTHDAY=1", "BYDAY=MO", "BYHOUR=1", "BYMINUTE=1", "BYSECOND=1", "BYSETPOS=1", "WKST=MO"} {
		name, _, _ := strings.Cut(part, "=")
		for _, again := range []string{part, name + "=", name + "=?"} {
			text := part + ";" + again
			got, err := rule.Parse(text)
			wantPlace(t, at("6.6: Parse(%q)", text), got, err, api.ErrExists, len(part)+1)
		}
	}
}

func TestWithoutFreq(t *testing.T) {
	for _, text := range []string{"COUNT=3", "RSCALE=HEBREW;INTERVAL=5", "BYMONTH=99", "INTERVAL=0"} {
		got, err := rule.Parse(text)
		wantPlace(t, at("6.6: Parse(%q)", text), got, err, api.ErrMissing, len(text))
	}
}

// TestWhatCheckSays is told without a place.
func TestWhatCheckSays(t *testing.T) {
	for want, l := range map[api.Errno][]string{
		api.ErrArg: {
			"FREQ=DAILY;INTERVAL=0", "FREQ=DAILY;INTERVAL=1001", "FREQ=DAILY;INTERVAL=999999", "FREQ=DAILY;INTERVAL=-99999", "FREQ=DAILY;COUNT=-1", "FREQ=DAILY;COUNT=10001", "FREQ=DAILY;BYMONTH=0", "FREQ=DAILY;BYMONTH=14", "FREQ=YEARLY;BYWEEKNO=0", "FREQ=YEARLY;BYYEARDAY=386", "FREQ=DAILY;BYMONTHDAY=-32", "FREQ=DAILY;BYHOUR=24", "FREQ=DAILY;BYHOUR=-1", "FREQ=DAILY;BYMINUTE=60", "FREQ=DAILY;BYSECOND=60", "FREQ=DAILY;BYSETPOS=0", "FREQ=DAILY;BYSETPOS=401", "FREQ=MONTHLY;BYDAY=54MO", "FREQ=MONTHLY;BYDAY=-99999MO",
		},
		api.ErrLimit: {"FREQ=DAILY;BYMONTH=1" + strings.Repeat(",1", 60), "FREQ=DAILY;BYDAY=MO" + strings.Repeat(",MO", 60), "FREQ=HOURLY;BYMINUTE=1,2,3,4,5,6,7,8,9"},
		api.ErrState: {"FREQ=WEEKLY;BYMONTHDAY=1", "FREQ=DAILY;BYDAY=1MO", "RSCALE=JULIAN;FREQ=YEARLY;BYWEEKNO=1", "FREQ=MONTHLY;BYYEARDAY=1", "FREQ=YEARLY;BYWEEKNO=1;BYDAY=1MO"},
	} {
		for _, text := range l {
			got, err := rule.Parse(text)
			wantError(t, at("6.6: Parse(%q)", text), got, err, want)
		}
	}
}

func TestLongTexts(t *testing.T) {
	const head = "FREQ=DAILY;BYMONTH=1"
	for _, text := range []string{head + strings.Repeat(",1", (api.MaxText-len(head))/2+1), strings.Repeat(";", api.MaxText+1), strings.Repeat("x", api.MaxText+1)} {
		got, err := rule.Parse(text)
		wantError(t, at("6.6: a text of %d bytes", len(text)), got, err, api.ErrLimit)
		text = text[:api.MaxText]
		got, err = rule.Parse(text)
		if strings.HasPrefix(text, head) {
			wantError(t, at("6.6: a text of %d bytes", len(text)), got, err, api.ErrLimit) // its list is too long
		} else {
			wantPlace(t, at("6.6: a text of %d bytes", len(text)), got, err, api.ErrForm, 0)
		}
	}
	got, err := rule.Parse("FREQ=DAILY;" + strings.Repeat("x", api.MaxText-11))
	wantPlace(t, at("6.6: a text of as many bytes as there may be"), got, err, api.ErrForm, 11)
}

// TestTornTexts: whatever is read, what is told is an error or a rule that may be.
func TestTornTexts(t *testing.T) {
	r := rand.New(rand.NewSource(66))
	const whole = "RSCALE=HEBREW;FREQ=YEARLY;INTERVAL=3;COUNT=4;UNTIL=20500102T030405;BYMONTH=12,1;BYYEARDAY=5,-6;BYMONTHDAY=-1,31;BYDAY=SU,-1MO;BYHOUR=17,9;BYMINUTE=30;BYSECOND=59;BYSETPOS=-1;WKST=WE"
	for range 20_000 {
		b := []byte(whole)
		for range 1 + r.Intn(3) {
			i := r.Intn(len(b))
			switch r.Intn(4) {
			case 0:
				b = append(b[:i], b[i+1:]...)
			case 1:
				b[i] = byte(r.Intn(256))
			case 2:
				b[i] = whole[r.Intn(len(whole))]
			case 3:
				b = b[:i+1]
			}
		}
		got, err := rule.Parse(string(b))
		if err != nil {
			if api.Tell(err) <= 0 {
				t.Errorf("Parse(%q): %v", b, err)
			}
		} else if err := rule.Check(got); err != nil {
			t.Errorf("6.6: Parse(%q): %+v, of which Check says %v", b, got, err)
		}
	}
}
