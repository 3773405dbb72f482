package clock_test

import (
	"math"
	"math/rand"
	"strings"
	"testing"

	"almanac/api"
	"almanac/clock"
)

func TestPeriodText(t *testing.T) {
	for _, k := range []struct {
		p    api.Period
		want string
	}{
		{api.Period{}, "PT0S"},
		{api.Period{Years: 1, Months: 2, Weeks: 3, Days: 4, Seconds: 5*3600 + 6*60 + 7}, "P1Y2M3W4DT5H6M7S"},
		{api.Period{Years: -1, Months: -2, Weeks: -3, Days: -4, Seconds: -(5*3600 + 6*60 + 7)}, "-P1Y2M3W4DT5H6M7S"},
		{api.Period{Months: 14}, "P14M"}, {api.Period{Days: 100}, "P100D"}, {api.Period{Weeks: 60}, "P60W"},
		{api.Period{Seconds: 1}, "PT1S"}, {api.Period{Seconds: 60}, "PT1M"}, {api.Period{Seconds: 3600}, "PT1H"}, {api.Period{Seconds: 3601}, "PT1H1S"}, {api.Period{Seconds: -3661}, "-PT1H1M1S"},
		{api.Period{Seconds: 90000}, "PT25H"}, {api.Period{Years: 3, Seconds: 61}, "P3YT1M1S"},
		{api.Period{Years: 1_000_000_000_000, Seconds: 1_000_000_000_000}, "P1000000000000YT277777777H46M40S"},
		{api.Period{Days: -1_000_000_000_000}, "-P1000000000000D"},
	} {
		got, err := clock.PeriodText(k.p)
		wantValue(t, at("2.5: PeriodText(%v)", k.p), got, err, k.want)
	}
}

func TestPeriodTextFaults(t *testing.T) {
	for _, p := range []api.Period{{Years: 1, Days: -1}, {Months: -1, Weeks: 2}, {Weeks: 1, Seconds: -1}, {Years: -1, Months: 12}, {Days: 1, Seconds: -86400}} {
		got, err := clock.PeriodText(p)
		wantError(t, at("2.5: PeriodText(%v)", p), got, err, api.ErrArg)
	}
	for _, n := range []int{math.MinInt, -1_000_000_000_001, 1_000_000_000_001, math.MaxInt} {
		for _, p := range []api.Period{{Years: n}, {Months: n}, {Weeks: n}, {Days: n}, {Seconds: n}, {Years: 1, Months: -1, Days: n}, {Years: n, Days: 1, Seconds: -1}} {
			got, err := clock.PeriodText(p)
			wantError(t, at("2.5: PeriodText(%v)", p), got, err, api.ErrRange)
		}
	}
}

func TestParsePeriod(t *testing.T) {
	for _, k := range []struct {
		text string
		want api.Period
	}{
		{"P1Y2M3W4DT5H6M7S", api.Period{Years: 1, Months: 2, Weeks: 3, Days: 4, Seconds: 5*3600 + 6*60 + 7}},
		{"-P1Y2M3W4DT5H6M7S", api.Period{Years: -1, Months: -2, Weeks: -3, Days: -4, Seconds: -(5*3600 + 6*60 + 7)}},
		{"-PT36H", api.Period{Seconds: -36 * 3600}}, {"PT0S", api.Period{}}, {"-P0D", api.Period{}}, {"P0Y0M0W0DT0H0M0S", api.Period{}},
		{"P1M", api.Period{Months: 1}}, {"PT1M", api.Period{Seconds: 60}}, {"P1MT1M", api.Period{Months: 1, Seconds: 60}},
		{"P2W", api.Period{Weeks: 2}}, {"P1Y1D", api.Period{Years: 1, Days: 1}}, {"P007D", api.Period{Days: 7}}, {"PT90S", api.Period{Seconds: 90}}, {"PT1H1S", api.Period{Seconds: 3601}},
		{"P12345678D", api.Period{Days: 12345678}}, {"P00000009Y", api.Period{Years: 9}},
		{"PT99999999H99999999M99999999S", api.Period{Seconds: 99999999 * 3661}},
	} {
		got, err := clock.ParsePeriod(k.text)
		wantValue(t, at("2.5: ParsePeriod(%q)", k.text), got, err, k.want)
	}
}

func TestParsePeriodForms(t *testing.T) {
	for text, place := range map[string]int{
		"": 0, "-": 1, "P": 1, "-P": 2, "PT": 2, "P1": 2, "PT1": 3, "P1YT": 4, "1D": 0, "+P1D": 0, "--P1D": 1, "p1D": 0, " P1D": 0, "P1DT1M ": 6, "P 1D": 1, "P-1D": 1, "P+1D": 1,
		"P1M1Y": 4, "P1D1W": 3, "P1W1M": 4, "P1Y1Y": 4, "P1D1D": 3, "PT1H1H": 5, "PT1M1H": 5, "PT1S1M": 4, "PT1S1S": 4, "PT1S1": 4, "P1D2": 3,
		"P1S": 2, "P1H": 2, "PT1D": 3, "PT1Y": 3, "P1DT1W": 5, "PYMD": 1, "PTS": 2, "P1d": 2, "P1D T1M": 3, "P1DTT1M": 4, "P1DT1M/": 6, "P1.5D": 2, "PT1,5S": 3, "P1X": 2, "P\xff": 1,
		"P1D123456789D": 3, "PT1S123456789S": 4, "P1DP1D": 3,
	} {
		got, err := clock.ParsePeriod(text)
		wantPlace(t, at("2.5: ParsePeriod(%q)", text), got, err, api.ErrForm, place)
	}
	for text, place := range map[string]int{
		"P123456789D": 1, "P000000001D": 1, "-P123456789": 2, "PT123456789": 2, "P1Y123456789x": 3, "P1DT5H" + strings.Repeat("0", 50) + "M": 6, "P99999999999999999999Y1M": 1, "P1M123456789Y": 3,
	} {
		got, err := clock.ParsePeriod(text)
		wantPlace(t, at("2.5: ParsePeriod(%q)", text), got, err, api.ErrLimit, place)
	}
}

// TestPeriodsAreReadAgain writes periods, and reads them.
func TestPeriodsAreReadAgain(t *testing.T) {
	r := rand.New(rand.NewSource(5))
	part := func(most int) int { return r.Intn(most) * r.Intn(2) }
	for i := range 3000 {
		p := api.Period{Years: part(100_000_000), Months: part(40), Weeks: part(300), Days: part(5000), Seconds: part(100_000_000)}
		if i%2 == 1 {
			p = api.Period{Years: -p.Years, Months: -p.Months, Weeks: -p.Weeks, Days: -p.Days, Seconds: -p.Seconds}
		}
		text, err := clock.PeriodText(p)
		if err != nil {
			t.Fatalf("2.5: PeriodText(%v): %v", p, err)
		}
		got, err := clock.ParsePeriod(text)
		wantValue(t, at("2.5: ParsePeriod(%q)", text), got, err, p)
	}
}
