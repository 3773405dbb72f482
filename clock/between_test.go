package clock_test

import (
	"testing"

	"almanac/api"
	"almanac/clock"
)

// pair is what ParseSpan answers.
type pair struct{ from, to api.Local }

func parseSpan(text string) (pair, error) {
	from, to, err := clock.ParseSpan(text)
	return pair{from, to}, err
}

func TestParseSpan(t *testing.T) {
	midnight := func(year, month, day int) api.Local { return local(year, month, day, 0, 0, 0) }
	for _, k := range []struct {
		text string
		want pair
	}{
		{"2024-01-01/2024-01-02", pair{midnight(2024, 1, 1), midnight(2024, 1, 2)}},
		{"2024-01-01T12:30/20240101T123001", pair{local(2024, 1, 1, 12, 30, 0), local(2024, 1, 1, 12, 30, 1)}},
		{"2024-01-01/2024001", pair{midnight(2024, 1, 1), midnight(2024, 1, 1)}},
		{"-00044-03-15/+02024-W28-1", pair{midnight(-44, 3, 15), midnight(2024, 7, 8)}},
		{"2024-01-31T00:00/P1M", pair{midnight(2024, 1, 31), midnight(2024, 2, 29)}},
		{"2024-01-31/P1MT1S", pair{midnight(2024, 1, 31), midnight(2024, 2, 29) + 1}},
		{"2024-01-31/PT0S", pair{midnight(2024, 1, 31), midnight(2024, 1, 31)}},
		{"P1M/2024-03-31T00:00", pair{midnight(2024, 2, 29), midnight(2024, 3, 31)}},
		{"P1Y2M3W4DT5H6M7S/2024-03-31", pair{midnight(2023, 1, 6) - 18367, midnight(2024, 3, 31)}},
		{"P0D/2024-03-31", pair{midnight(2024, 3, 31), midnight(2024, 3, 31)}},
		{"P8000000D/+12921-08-18T23:59:59", pair{firstTime + 86399, lastTime}},
		{"2024-01-01T24:00/2024-01-02", pair{midnight(2024, 1, 2), midnight(2024, 1, 2)}},
	} {
		got, err := parseSpan(k.text)
		wantValue(t, at("2.6: ParseSpan(%q)", k.text), got, err, k.want)
	}
}

// TestParseSpanPlaces: places are those of the whole text, in the second part, too.
func TestParseSpanPlaces(t *testing.T) {
	for text, place := range map[string]int{
		"": 0, "2024-01-01": 10, "P1D": 3, "x": 1, "2024-13-01": 10,
		"/": 0, "/2024-01-01": 0, "2024-01-01/": 11, "P1D/": 4, "2024-01-01//P1D": 11, "2024-01-01/2024-01-02/P1D": 21,
		"2024-01-x/2024-01-02": 8, "2024-01-01/2024-01-x": 19, "P1x/2024-01-01": 2, "P/2024-01-01": 1, "2024-01-01/PX": 12, "2024-01-01/P": 12, "2024-01-01/P1DT": 15,
		"P1D/P1D": 4, "P1D/PX": 4, "P1D/2024-x": 9, "-P1D/2024-01-01": 1, "2024-01-01/-P1D": 12, "2024-01-01/p1D": 11, "2024-01-01 /P1D": 10,
		"2024-01-01T00:00Z/P1D": 17, "2024-01-01T00:00+00:00/2024-01-02T00:00Z": 22, "2024-01-01/2024-01-02T00:00Z": 28, "P1D/20240102T0000-0530": 22, "2024-01-01T00:00Z/2024-13-01": 17,
		"2024-01-02/2024-01-01x": 21, "x/2024-13-01": 0,
	} {
		got, err := parseSpan(text)
		wantPlace(t, at("2.6: ParseSpan(%q)", text), got, err, api.ErrForm, place)
	}
	for text, place := range map[string]int{"P123456789D/x": 1, "2024-01-01/P123456789D": 12, "2024-01-01/PT1H000000001M": 15} {
		got, err := parseSpan(text)
		wantPlace(t, at("2.6: ParseSpan(%q)", text), got, err, api.ErrLimit, place)
	}
}

func TestParseSpanFaults(t *testing.T) {
	for want, l := range map[api.Errno][]string{
		api.ErrDate:  {"2024-13-01/P1D", "2024-13-01/x", "2024-01-01/2024-01-32", "P1D/2024-01-01T25:00", "2024-01-01/2024-01-01T00:00+24:00", "2024-02-30Z/x"},
		api.ErrRange: {"+14000-01-01/P1D", "2024-01-01/+14000-01-01", "P1D/-08982-05-17", "+12921-08-18/P1D", "2024-01-01/P20000Y", "2024-01-01/P99999999Y", "P99999999W/2024-01-01", "+12921-08-18T23:59:59/PT1S"},
		api.ErrOrder: {"2024-01-02/2024-01-01", "2024-01-01T00:00:01/2024-01-01", "+12921-08-18/-08982-05-17"},
	} {
		for _, text := range l {
			got, err := parseSpan(text)
			wantError(t, at("2.6: ParseSpan(%q)", text), got, err, want)
		}
	}
}
