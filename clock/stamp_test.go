package clock_test

import (
	"fmt"
	"strings"
	"testing"

	"almanac/api"
	"almanac/clock"
	"almanac/days"
)

func TestParse(t *testing.T) {
	noon := local(2024, 7, 8, 12, 30, 0)
	midnight := local(2024, 7, 8, 0, 0, 0)
	for _, k := range []struct {
		text string
		want api.Stamp
	}{
		{"2024-07-08", api.Stamp{Local: midnight}}, {"20240708", api.Stamp{Local: midnight}},
		{"2024-190", api.Stamp{Local: midnight}}, {"2024190", api.Stamp{Local: midnight}},
		{"2024-W28-1", api.Stamp{Local: midnight}}, {"2024W281", api.Stamp{Local: midnight}},
		{"+02024-07-08", api.Stamp{Local: midnight}}, {"+02024190", api.Stamp{Local: midnight}}, {"+02024W281", api.Stamp{Local: midnight}},
		{"2024-07-08T12:30", api.Stamp{Local: noon}}, {"20240708T1230", api.Stamp{Local: noon}},
		{"2024190T1230", api.Stamp{Local: noon}}, {"2024-W28-1T12:30:00", api.Stamp{Local: noon}}, {"2024W281T123000Z", api.Stamp{Local: noon, Zone: api.Zulu}},
		{"2024-07-08T12:30:59", api.Stamp{Local: noon + 59}}, {"20240708T123059", api.Stamp{Local: noon + 59}},
		{"2024-07-08T12:30Z", api.Stamp{Local: noon, Zone: api.Zulu}},
		{"2024-07-08T12:30+05:30", api.Stamp{Local: noon, Zone: api.Offset, Offset: 19800}},
		{"20240708T1230+0530", api.Stamp{Local: noon, Zone: api.Offset, Offset: 19800}},
		{"20240708T123000-0030", api.Stamp{Local: noon, Zone: api.Offset, Offset: -1800}},
		{"2024-190T12:30:00-23:59", api.Stamp{Local: noon, Zone: api.Offset, Offset: -86340}},
		{"2024-07-08T12:30-00:00", api.Stamp{Local: noon, Zone: api.Offset}},
		{"2024-07-08T00:00", api.Stamp{Local: midnight}}, {"2024-07-08T23:59:59", api.Stamp{Local: midnight + 86399}},
		{"2024-07-07T24:00", api.Stamp{Local: midnight}}, {"20240707T240000Z", api.Stamp{Local: midnight, Zone: api.Zulu}},
		{"2023-12-31T24:00:00", api.Stamp{Local: local(2024, 1, 1, 0, 0, 0)}},
		{"-00044-03-15T24:00", api.Stamp{Local: local(-44, 3, 16, 0, 0, 0)}},
		{"-00044075", api.Stamp{Local: local(-44, 3, 15, 0, 0, 0)}},
		{"0000-02-29", api.Stamp{Local: local(0, 2, 29, 0, 0, 0)}}, {"-00000-02-29", api.Stamp{Local: local(0, 2, 29, 0, 0, 0)}}, {"+000000229", api.Stamp{Local: local(0, 2, 29, 0, 0, 0)}},
		{"2024-366", api.Stamp{Local: local(2024, 12, 31, 0, 0, 0)}}, {"2023-365", api.Stamp{Local: local(2023, 12, 31, 0, 0, 0)}}, {"2023-001", api.Stamp{Local: local(2023, 1, 1, 0, 0, 0)}}, {"2024070", api.Stamp{Local: local(2024, 3, 10, 0, 0, 0)}},
		{"2020-W53-7", api.Stamp{Local: local(2021, 1, 3, 0, 0, 0)}}, {"2025-W01-1", api.Stamp{Local: local(2024, 12, 30, 0, 0, 0)}},
		{"-08982-05-17", api.Stamp{Local: firstTime}}, {"-08982-W20-7T00:00", api.Stamp{Local: firstTime}},
		{"+12921-08-18T23:59:59", api.Stamp{Local: lastTime}}, {"+12921230T2359", api.Stamp{Local: lastTime - 59}},
		{"+12921-08-17T24:00", api.Stamp{Local: lastTime - 86399}},
	} {
		got, err := clock.Parse(k.text)
		wantValue(t, at("2.4: Parse(%q)", k.text), got, err, k.want)
	}
}

// TestParseForms: the first byte that can't stand where it stands, or the end.
func TestParseForms(t *testing.T) {
	for text, place := range map[string]int{
		"": 0, "x": 0, " 2024-07-08": 0, "T12:30": 0, "202": 3, "2024": 4, "2024-": 5, "2024x07": 4, "2024--07-08": 5,
		"+2024-07-08": 5, "-2024-07-08": 5, "++12024": 1, "-0044": 5, "+123456-01-01": 7,
		"2024-0": 6, "2024-07": 7, "2024-07-": 8, "2024-07-0": 9, "2024-0708": 7, "202407-08": 6, "2024-07/08": 7,
		"2024-1900": 7, "202407089": 8, "2024-07-089": 10, "2024-7-8": 6, "2024-19": 7, "20241": 5,
		"2024-W": 6, "2024-W2-1": 7, "2024-W281": 8, "2024W28-1": 7, "2024-W28-": 9, "2024W28": 7, "2024W2811": 8, "2024-w28-1": 5,
		"2024-07-08 12:30": 10, "2024-07-08t12:30": 10, "2024-07-08Z": 10, "2024-07-08+05:30": 10, "2024-07-08T": 11, "2024-07-08TZ": 11,
		"2024-07-08T1": 12, "2024-07-08T12": 13, "2024-07-08T12:": 14, "2024-07-08T12:3": 15, "2024-07-08T12:30:": 17, "2024-07-08T12:30:4": 18,
		"2024-07-08T1230": 13, "2024-07-08T12:3045": 16, "2024-07-08T12:30:450": 19, "2024-07-08T12:30:45.5": 19,
		"20240708T12:30": 11, "20240708T1230:45": 13, "20240708T12304": 14, "20240708T1230450": 15, "2024190T12:30": 10, "2024W281T12:30": 11,
		"2024-07-08T12:30Zz": 17, "2024-07-08T12:30z": 16, "2024-07-08T12:30ZZ": 17, "2024-07-08T12:30+": 17, "2024-07-08T12:30+5:30": 18,
		"2024-07-08T12:30+0530": 19, "20240708T1230+05:30": 16, "2024-07-08T12:30+05": 19, "2024-07-08T12:30+05:": 20, "2024-07-08T12:30+05:300": 22, "2024-07-08T12:30+05:30Z": 22,
		"2024-07-08T12:30\x00": 16, "２024": 0, "2024-07-08\n": 10,
		"2024-13-x": 8, "2024-W99-x": 9, "2024-07-08T25:30:x": 17, "2024-07-08T12:30+99:x": 20, "+99999-x": 7, // (no more than a part of what is no day, clock, zone)
	} {
		got, err := clock.Parse(text)
		wantPlace(t, at("2.4: Parse(%q)", text), got, err, api.ErrForm, place)
	}
}

// TestParseFaults: what is well formed but is not there is told without a place, as soon as it has been read.
func TestParseFaults(t *testing.T) {
	for want, l := range map[api.Errno][]string{
		api.ErrDate: {
			"2024-02-30", "2023-02-29", "20230229", "2024-00-01", "2024-13-01", "2024-01-00", "2024-01-32", "2023-366", "2024-367", "2024-000", "2024999",
			"2021-W53-7", "2024-W00-1", "2024-W01-0", "2024-W01-8", "2024W018", "+12921-231", "+12921365", "+12921-366",
			"2024-07-08T24:00:01", "2024-07-08T24:01", "2024-07-08T25:00", "20240708T2430", "2024-07-08T12:60", "2024-07-08T12:30:60", "20240708T123060", "2024-07-08T99:99:99",
			"2024-07-08T12:30+24:00", "20240708T1230-2400", "2024-07-08T12:30+23:60", "2024-07-08T12:30+05:60", "2024-07-08T12:30-99:00",
			"2024-02-30x", "20240230:", "202402301", "2023-366-", "2021-W53-7x", "2024-02-30T25:00", "2024-02-30Z", "2024-02-30T",
			"2024-07-08T25:00x", "20240708T2530:45", "2024-07-08T12:60+99:99", "2024-07-08T25:00+0530", "2024-07-08T12:30+24:00x",
		},
		api.ErrRange: {
			"-08982-05-16", "+12921-08-19", "-08982-W20-6", "+12921-W34-2", "+14000-01-01", "+20000-12-31", "-20000-01-01", "+20001-01-01", "-20001-13-77", "+99999-99-99",
			"-08982-136", "-08982-365", "-08982001", // (of a year whose first day is not there, none is)
			"-09000-999", "+12922-001", "+12922-000", "+20001-001", "+99999W999", "+20001-W01-1",
			"+12921-08-18T24:00", "+129210818T240000", "+12921-230T24:00Z", "+12921-W34-1T24:00:00", "+12921-08-18T24:00x",
			"+12921-08-19x", "+12922-000T99:99", "-08982-05-16T24:00",
		},
	} {
		for _, text := range l {
			got, err := clock.Parse(text)
			wantError(t, at("2.4: Parse(%q)", text), got, err, want)
		}
	}
}

// TestParseBytes puts a byte that can stand nowhere at each place of texts, and ends them there.
func TestParseBytes(t *testing.T) {
	for _, text := range []string{"2024-07-08T12:30:45+05:30", "-00044-12-31T11:09:07-11:00", "20241008T123045+0530", "2024-W28-1T12:30:45Z", "+02024W281T123045-0530", "2024-190T12:30:45+05:30", "-00044190T123045Z"} {
		if _, err := clock.Parse(text); err != nil {
			t.Fatalf("2.4: Parse(%q): %v", text, err)
		}
		for i := range len(text) {
			wrong := text[:i] + "?" + text[i+1:]
			got, err := clock.Parse(wrong)
			wantPlace(t, at("2.4: Parse(%q)", wrong), got, err, api.ErrForm, i)
			got, err = clock.Parse(text[:i])
			if err != nil {
				wantPlace(t, at("2.4: Parse(%q)", text[:i]), got, err, api.ErrForm, i)
			}
		}
	}
}

// TestWrittenIsRead writes stamps, and reads them.
func TestWrittenIsRead(t *testing.T) {
	for i, x := range someTimes() {
		for _, s := range []api.Stamp{{Local: x}, {Local: x, Zone: api.Zulu}, {Local: x, Zone: api.Offset, Offset: 60 * (i%2879 - 1439)}} {
			text, err := clock.StampText(s)
			if err != nil {
				t.Fatalf("2.3: StampText(%v): %v", s, err)
			}
			got, err := clock.Parse(text)
			wantValue(t, at("2.4: Parse(%q)", text), got, err, s)
		}
	}
}

// TestAllForms writes the days of times in all the forms that a day has.
func TestAllForms(t *testing.T) {
	for _, x := range someTimes() {
		day, second, err := clock.Split(x)
		if err != nil {
			t.Fatal(err)
		}
		d, c, err := clock.Tell(x)
		if err != nil {
			t.Fatal(err)
		}
		for _, form := range dayForms(t, d, day) {
			long := fmt.Sprintf("%sT%02d:%02d:%02d", form, c.Hour, c.Minute, c.Second)
			if !strings.Contains(form[1:], "-") {
				long = fmt.Sprintf("%sT%02d%02d%02d", form, c.Hour, c.Minute, c.Second)
			}
			got, err := clock.Parse(form)
			wantValue(t, at("2.4: Parse(%q)", form), got, err, api.Stamp{Local: x - api.Local(second)})
			got, err = clock.Parse(long)
			wantValue(t, at("2.4: Parse(%q)", long), got, err, api.Stamp{Local: x})
		}
	}
}

// dayForms are the texts of a day that is there.
func dayForms(t *testing.T, d api.Date, day int) []string {
	year := signed(d.Year)
	l := []string{fmt.Sprintf("%s-%02d-%02d", year, d.Month, d.Day), fmt.Sprintf("%s%02d%02d", year, d.Month, d.Day)}
	if first, err := days.Day(api.Date{Cal: api.Gregorian, Year: d.Year, Month: 1, Day: 1}); err == nil {
		l = append(l, fmt.Sprintf("%s-%03d", year, day-first+1), fmt.Sprintf("%s%03d", year, day-first+1))
	}
	y, week, weekday, err := days.Week(day)
	if err != nil {
		t.Fatal(err)
	}
	return append(l, fmt.Sprintf("%s-W%02d-%d", signed(y), week, weekday), fmt.Sprintf("%sW%02d%d", signed(y), week, weekday))
}

// signed is a year with its sign and five digits, which each year may have.
func signed(year int) string { return fmt.Sprintf("%+06d", year) }
