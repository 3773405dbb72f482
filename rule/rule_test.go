package rule_test

import (
	"math"
	"reflect"
	"slices"
	"testing"

	"almanac/api"
	"almanac/rule"
)

// Promise 6.4.

func TestStarts(t *testing.T) {
	first := api.Local((margin - api.MaxDay) * api.Daily)
	last := api.Local((api.MaxDay-margin)*api.Daily + api.Daily - 1)
	for _, start := range append(noTimes, firstTime, first-1, last+1, lastTime) {
		for cal := api.Gregorian; cal <= api.Egyptian; cal++ {
			r := with(func(r *api.Rule) { r.Cal = cal })
			seq, err := rule.All(r, start)
			if seq != nil || err != api.ErrRange {
				t.Errorf("6.4: All from %d on: %v; error %d is wanted", start, err, api.ErrRange)
			}
			next, err := rule.Next(r, start, 0)
			wantError(t, at("6.4: Next from %d on", start), next, err, api.ErrRange)
			l, err := rule.Between(r, start, 0, 1)
			wantError(t, at("6.4: Between from %d on", start), l, err, api.ErrRange)
		}
	}
	for _, start := range []api.Local{first, last} {
		for cal := api.Gregorian; cal <= api.Egyptian; cal++ {
			for freq := api.Hourly; freq <= api.Yearly; freq++ {
				r := with(func(r *api.Rule) { r.Cal, r.Freq = cal, freq })
				if l := all(t, r, start, 2); len(l) != 2 || l[0] != start {
					t.Errorf("6.4: frequency %d of calendar %d from %d on: %v", freq, cal, start, l)
				}
			}
		}
	}
}

func TestNext(t *testing.T) {
	r := read(t, "FREQ=DAILY;COUNT=3;BYHOUR=9,17")
	start := local("2024-07-08T09:00")
	one, two, three := start, start+8*3600, start+api.Daily
	for _, c := range []struct{ behind, want api.Local }{
		{math.MinInt, one}, {firstTime - 1, one}, {0, one}, {one - 1, one}, {one, two}, {one + 1, two}, {two - 1, two}, {two, three}, {three - 1, three},
	} {
		got, err := rule.Next(r, start, c.behind)
		wantValue(t, at("6.4: Next behind %d", c.behind), got, err, c.want)
	}
	for _, behind := range []api.Local{three, three + 1, lastTime, lastTime + 1, math.MaxInt} {
		got, err := rule.Next(r, start, behind)
		wantError(t, at("6.4: Next behind %d", behind), got, err, api.ErrNone)
	}
	for _, text := range []string{"FREQ=MONTHLY;BYMONTH=2;BYMONTHDAY=30", "FREQ=DAILY;UNTIL=19700101", "FREQ=DAILY;BYSETPOS=3"} {
		for _, behind := range []api.Local{math.MinInt, start, math.MaxInt} {
			got, err := rule.Next(read(t, text), start, behind)
			wantError(t, at("6.4: Next of %s behind %d", text, behind), got, err, api.ErrNone)
		}
	}
}

func TestNextByNext(t *testing.T) {
	for _, text := range []string{"FREQ=MONTHLY;BYDAY=-1FR,2TU", "RSCALE=HEBREW;FREQ=YEARLY;BYMONTHDAY=1", "FREQ=WEEKLY;INTERVAL=7;COUNT=20", "FREQ=YEARLY;BYWEEKNO=-1,1;BYSETPOS=-1"} {
		r := read(t, text)
		var l []api.Local
		for behind := api.Local(math.MinInt); ; {
			next, err := rule.Next(r, -12345, behind)
			if err != nil {
				break
			}
			l = append(l, next)
			behind = next
		}
		wantTimes(t, at("%s by Next", text), l, all(t, r, -12345, math.MaxInt))
	}
}

func TestBetween(t *testing.T) {
	r := read(t, "FREQ=DAILY;COUNT=3")
	start := local("2024-07-08T09:00")
	one, two, three := start, start+api.Daily, start+2*api.Daily
	for _, c := range []struct {
		from, to api.Local
		want     []api.Local
	}{
		{math.MinInt, math.MaxInt, []api.Local{one, two, three}},
		{one, three, []api.Local{one, two}},
		{one, three + 1, []api.Local{one, two, three}},
		{one + 1, three, []api.Local{two}},
		{two, two, nil},
		{two, two + 1, []api.Local{two}},
		{two - 1, two, nil},
		{three, one, nil},
		{math.MaxInt, math.MinInt, nil},
		{math.MinInt, one, nil},
		{math.MinInt, math.MinInt, nil},
		{three + 1, math.MaxInt, nil},
		{math.MaxInt, math.MaxInt, nil},
		{0, firstTime - 1, nil},
	} {
		got, err := rule.Between(r, start, c.from, c.to)
		if err != nil {
			t.Errorf("6.4: Between(%d, %d): %v", c.from, c.to, err)
		}
		wantTimes(t, at("6.4: Between(%d, %d)", c.from, c.to), got, c.want)
	}
}

func TestBetweenIsFresh(t *testing.T) {
	r := daily()
	a, _ := rule.Between(r, 0, 0, 9*api.Daily)
	b, _ := rule.Between(r, 0, 0, 9*api.Daily)
	for i := range a {
		a[i] = -1
	}
	_ = append(a[:1], 77)
	wantTimes(t, at("a list behind a change of another one"), b, all(t, r, 0, 9))
}

func TestAllAgainAndAgain(t *testing.T) {
	for _, text := range []string{"FREQ=DAILY", "FREQ=MONTHLY;COUNT=9;BYDAY=1MO", "FREQ=YEARLY;BYDAY=MO;BYSETPOS=1,-1", "FREQ=HOURLY;INTERVAL=9", "FREQ=WEEKLY;COUNT=12;BYHOUR=1,2,3"} {
		seq, err := rule.All(read(t, text), 0)
		if err != nil {
			t.Fatal(err)
		}
		want, _ := rule.Between(read(t, text), 0, 0, math.MaxInt)
		for most := range 9 {
			var got []api.Local
			for x := range seq {
				if len(got) == most {
					break
				}
				got = append(got, x)
			}
			wantTimes(t, at("the first %d of %s", most, text), got, want[:most])
		}
		for range 2 {
			wantTimes(t, at("all of %s", text), slices.Collect(seq), want)
		}
	}
}

func TestAllStopsWhenNoMoreIsAskedFor(t *testing.T) {
	for _, text := range []string{"FREQ=DAILY", "FREQ=DAILY;BYHOUR=1,2,3", "FREQ=HOURLY;BYMINUTE=1,2,3", "FREQ=MONTHLY;BYDAY=MO;BYSETPOS=1,2,3"} {
		for most := 1; most < 6; most++ {
			seq, err := rule.All(read(t, text), 0)
			if err != nil {
				t.Fatal(err)
			}
			asked := 0
			seq(func(api.Local) bool {
				asked++
				return asked < most
			})
			if asked != most {
				t.Errorf("6.4: All of %s told %d times; %d were asked for", text, asked, most)
			}
		}
	}
}

func TestAllWithinAll(t *testing.T) {
	seq, err := rule.All(read(t, "FREQ=MONTHLY;COUNT=3;BYDAY=1MO,-1SU"), 0)
	if err != nil {
		t.Fatal(err)
	}
	l := slices.Collect(seq)
	var got, want []api.Local
	for x := range seq {
		for y := range seq {
			got = append(got, x+y)
		}
	}
	for _, x := range l {
		for _, y := range l {
			want = append(want, x+y)
		}
	}
	wantTimes(t, at("All within All"), got, want)
}

// manyLists is a rule that has lists of all kinds, in no order.
func manyLists() api.Rule {
	r := api.Rule{Cal: api.Gregorian, Freq: api.Yearly, Every: 1, First: 1}
	r.Months, r.Weeks, r.YearDays, r.MonthDays = []int{12, 1, 5, 1}, []int{-1, 3, 1, 20}, numbers(-60, -1), []int{-1, 31, 5, 20, 19, 17}
	r.Days = []api.Nth{{Day: 7}, {Day: 1}, {Day: 4}, {Day: 1}}
	r.Hours, r.Minutes, r.Seconds, r.Places = []int{17, 9, 17}, []int{30, 0}, []int{59, 0}, []int{-1, 2, 1, 3, 5}
	return r
}

// TestRulesAreLeftAlone: nothing is written into the lists that are handed in, and nothing of them is kept.
func TestRulesAreLeftAlone(t *testing.T) {
	r := manyLists()
	ahead := copied(r)
	seq, err := rule.All(r, 0)
	if err != nil {
		t.Fatal(err)
	}
	want := slices.Collect(seq)
	if len(want) == 0 {
		t.Fatal("no times to ask for")
	}
	_, err1 := rule.Next(r, 0, 0)
	_, err2 := rule.Between(r, 0, 0, math.MaxInt)
	_, err3 := rule.Text(r)
	if err1 != nil || err2 != nil || err3 != nil || rule.Check(r) != nil || !reflect.DeepEqual(r, ahead) {
		t.Errorf("P4: the rule %+v has become %+v (%v, %v, %v)", ahead, r, err1, err2, err3)
	}
	for _, l := range lists(&r) {
		for i := range *l {
			(*l)[i] = 7
		}
	}
	for i := range r.Days {
		r.Days[i] = api.Nth{N: 99, Day: 99}
	}
	wantTimes(t, at("P4: All, behind a change of the lists that were handed in"), slices.Collect(seq), want)
}

// TestBusiestRules: rules that have as much as they may are told, too.
func TestBusiestRules(t *testing.T) {
	r := with(func(r *api.Rule) {
		r.Freq, r.YearDays = api.Yearly, numbers(1, 60)
		r.Hours, r.Minutes, r.Places = numbers(0, 19), numbers(0, 9), append(numbers(-30, -1), numbers(371, 400)...)
	})
	if l := all(t, r, 0, math.MaxInt); len(l) != 30*60 {
		t.Errorf("6.2: %d times; %d are wanted", len(l), 30*60)
	}
	r = with(func(r *api.Rule) { r.Freq, r.Minutes, r.Seconds = api.Hourly, numbers(0, 3), []int{0, 30} })
	if l := all(t, r, 0, math.MaxInt); len(l) != 10_958*24*8 {
		t.Errorf("6.2: %d times; %d are wanted", len(l), 10_958*24*8)
	}
}
