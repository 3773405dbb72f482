package rule_test

import (
	"math/rand"
	"reflect"
	"testing"

	"almanac/api"
	"almanac/rule"
)

// Promise 6.5. (Rules that may not be: check_test.go.)

func TestText(t *testing.T) {
	yearly := func(change func(r *api.Rule)) api.Rule {
		return with(func(r *api.Rule) { r.Freq = api.Yearly; change(r) })
	}
	for want, r := range map[string]api.Rule{
		"FREQ=HOURLY":                            with(func(r *api.Rule) { r.Freq = api.Hourly }),
		"FREQ=DAILY":                             daily(),
		"FREQ=WEEKLY":                            with(func(r *api.Rule) { r.Freq = api.Weekly }),
		"FREQ=MONTHLY":                           with(func(r *api.Rule) { r.Freq = api.Monthly }),
		"FREQ=YEARLY":                            yearly(func(*api.Rule) {}),
		"FREQ=DAILY;INTERVAL=2":                  with(func(r *api.Rule) { r.Every = 2 }),
		"FREQ=DAILY;INTERVAL=1000":               with(func(r *api.Rule) { r.Every = 1000 }),
		"FREQ=DAILY;COUNT=1":                     with(func(r *api.Rule) { r.Count = 1 }),
		"FREQ=DAILY;COUNT=10000":                 with(func(r *api.Rule) { r.Count = 10_000 }),
		"FREQ=DAILY;UNTIL=19700101T000000":       with(func(r *api.Rule) { r.Ends = true }),
		"FREQ=DAILY;UNTIL=20240810T093000":       with(func(r *api.Rule) { r.Ends, r.Until = true, local("2024-08-10T09:30") }),
		"FREQ=DAILY;UNTIL=-000440315T235959":     with(func(r *api.Rule) { r.Ends, r.Until = true, -63_549_273_601 }),
		"FREQ=DAILY;UNTIL=-089820517T000000":     with(func(r *api.Rule) { r.Ends, r.Until = true, firstTime }),
		"FREQ=DAILY;UNTIL=+129210818T235959":     with(func(r *api.Rule) { r.Ends, r.Until = true, lastTime }),
		"FREQ=YEARLY;BYMONTH=13,1,1":             yearly(func(r *api.Rule) { r.Months = []int{13, 1, 1} }),
		"FREQ=YEARLY;BYWEEKNO=-53,53":            yearly(func(r *api.Rule) { r.Weeks = []int{-53, 53} }),
		"FREQ=YEARLY;BYYEARDAY=385,-385,100":     yearly(func(r *api.Rule) { r.YearDays = []int{385, -385, 100} }),
		"FREQ=YEARLY;BYMONTHDAY=-31,31":          yearly(func(r *api.Rule) { r.MonthDays = []int{-31, 31} }),
		"FREQ=DAILY;BYDAY=MO,TU,WE,TH,FR,SA,SU":  with(func(r *api.Rule) { r.Days = nths(0, 1, 0, 2, 0, 3, 0, 4, 0, 5, 0, 6, 0, 7) }),
		"FREQ=YEARLY;BYDAY=-1FR,53SU,SU,-53MO":   yearly(func(r *api.Rule) { r.Days = nths(-1, 5, 53, 7, 0, 7, -53, 1) }),
		"FREQ=DAILY;BYHOUR=23,0":                 with(func(r *api.Rule) { r.Hours = []int{23, 0} }),
		"FREQ=DAILY;BYMINUTE=59,0":               with(func(r *api.Rule) { r.Minutes = []int{59, 0} }),
		"FREQ=DAILY;BYSECOND=0":                  with(func(r *api.Rule) { r.Seconds = []int{0} }),
		"FREQ=DAILY;BYSETPOS=-400,400":           with(func(r *api.Rule) { r.Places = []int{-400, 400} }),
		"FREQ=DAILY;WKST=TU":                     with(func(r *api.Rule) { r.First = 2 }),
		"FREQ=DAILY;WKST=SU":                     with(func(r *api.Rule) { r.First = 7 }),
		"RSCALE=JULIAN;FREQ=DAILY":               with(func(r *api.Rule) { r.Cal = api.Julian }),
		"RSCALE=COPTIC;FREQ=DAILY":               with(func(r *api.Rule) { r.Cal = api.Coptic }),
		"RSCALE=ETHIOPIC;FREQ=DAILY":             with(func(r *api.Rule) { r.Cal = api.Ethiopic }),
		"RSCALE=ISLAMIC;FREQ=DAILY":              with(func(r *api.Rule) { r.Cal = api.Islamic }),
		"RSCALE=PERSIAN;FREQ=DAILY":              with(func(r *api.Rule) { r.Cal = api.Persian }),
		"RSCALE=HEBREW;FREQ=DAILY":               with(func(r *api.Rule) { r.Cal = api.Hebrew }),
		"RSCALE=SAKA;FREQ=DAILY":                 with(func(r *api.Rule) { r.Cal = api.Saka }),
		"RSCALE=FRENCH;FREQ=DAILY":               with(func(r *api.Rule) { r.Cal = api.French }),
		"RSCALE=EGYPTIAN;FREQ=DAILY":             with(func(r *api.Rule) { r.Cal = api.Egyptian }),
		"FREQ=DAILY;BYMONTH=1;BYDAY=MO;BYHOUR=2": with(func(r *api.Rule) { r.Months, r.Days, r.Hours, r.Minutes = []int{1}, nths(0, 1), []int{2}, []int{} }),
	} {
		got, err := rule.Text(r)
		wantValue(t, at("6.5: Text(%+v)", r), got, err, want)
	}
}

func TestAllPartsOfATextInOrder(t *testing.T) {
	r := manyLists()
	r.Every, r.Count, r.Ends, r.Until, r.First, r.YearDays = 3, 4, true, local("2050-01-02T03:04:05"), 3, []int{5, -6}
	const want = "FREQ=YEARLY;INTERVAL=3;COUNT=4;UNTIL=20500102T030405;BYMONTH=12,1,5,1;BYWEEKNO=-1,3,1,20;BYYEARDAY=5,-6;BYMONTHDAY=-1,31,5,20,19,17;BYDAY=SU,MO,TH,MO;BYHOUR=17,9,17;BYMINUTE=30,0;BYSECOND=59,0;BYSETPOS=-1,2,1,3,5;WKST=WE"
	got, err := rule.Text(r)
	wantValue(t, at("6.5: Text(%+v)", r), got, err, want)
	r.Cal, r.Weeks = api.Hebrew, nil
	got, err = rule.Text(r)
	wantValue(t, at("6.5: Text(%+v)", r), got, err, "RSCALE=HEBREW;"+want[:69]+want[len("BYWEEKNO=-1,3,1,20;")+69:])
}

// TestWhatIsWrittenIsRead: Parse of what Text gives is the rule, if its lists that are empty are nil.
func TestWhatIsWrittenIsRead(t *testing.T) {
	r := rand.New(rand.NewSource(65))
	for range 3000 {
		x := drawn(r, 1+api.Cal(r.Intn(10)), 0)
		if r.Intn(9) == 0 {
			x.Ends, x.Until = true, firstTime+api.Local(r.Int63n(int64(lastTime-firstTime)+1))
		}
		text, err := rule.Text(x)
		if err != nil {
			t.Fatalf("Text(%+v): %v", x, err)
		}
		got, err := rule.Parse(text)
		if err != nil || !reflect.DeepEqual(got, x) {
			t.Errorf("6.6: %s: %+v, %v; %+v is wanted", text, got, err, x)
		}
		again, err := rule.Text(got)
		wantValue(t, at("6.5: Text of Parse(%q)", text), again, err, text)
	}
}
