package desk_test

import (
	"fmt"
	"strings"
	"testing"

	"almanac/api"
	"almanac/desk"
)

const (
	uid   = "UID:a"
	start = "DTSTART:20240304T090000"
	next  = "END:VEVENT\nBEGIN:VEVENT"
	again = "RECURRENCE-ID:20240304T090000"
)

func TestImport(t *testing.T) {
	when := local("20240304T090000")
	for _, c := range []struct {
		lines []string
		want  api.Event
	}{
		{[]string{uid, start}, api.Event{Uid: "a", Start: when}},
		{[]string{start, uid}, api.Event{Uid: "a", Start: when}},
		{[]string{uid, start, "SEQUENCE:0"}, api.Event{Uid: "a", Start: when}},
		{[]string{uid, start, "SEQUENCE:10"}, api.Event{Uid: "a", Start: when, Seq: 10}},
		{[]string{uid, start, "SEQUENCE:1000000"}, api.Event{Uid: "a", Start: when, Seq: 1_000_000}},
		{[]string{uid, start, "SUMMARY:"}, api.Event{Uid: "a", Start: when}},
		{[]string{uid, start, `SUMMARY:a\, b\; c \\n`}, api.Event{Uid: "a", Start: when, Title: `a, b; c \n`}},
		{[]string{uid, "DTSTART;TZID=X:20240304T090000"}, api.Event{Uid: "a", Start: when, Zone: "X"}},
		{[]string{uid, "DTSTART;TZID=:20240304T090000"}, api.Event{Uid: "a", Start: when}},
		{[]string{uid, "DTSTART:-000440315T123000"}, api.Event{Uid: "a", Start: local("00000315T123000") - 16071*api.Daily}},
		{[]string{uid, start, "DURATION:PT0S"}, api.Event{Uid: "a", Start: when}},
		{[]string{uid, start, "DURATION:P1W1DT1H1M1S"}, api.Event{Uid: "a", Start: when, Length: 8*api.Daily + 3661}},
		{[]string{uid, start, "DURATION:P0Y0M1D"}, api.Event{Uid: "a", Start: when, Length: api.Daily}},
		{[]string{uid, start, "DURATION:P400D"}, api.Event{Uid: "a", Start: when, Length: api.MaxLength}},
		{[]string{uid, start, "TRANSP:OPAQUE"}, api.Event{Uid: "a", Start: when}},
		{[]string{uid, start, "TRANSP:TRANSPARENT"}, api.Event{Uid: "a", Start: when, Free: true}},
		{[]string{uid, start, "RRULE:COUNT=3;FREQ=DAILY"}, api.Event{Uid: "a", Start: when, Repeats: true, Rule: ruleOf("FREQ=DAILY;COUNT=3")}},
		{[]string{uid, start, "EXDATE:20240304T090000"}, api.Event{Uid: "a", Start: when, Out: []api.Local{when}}},
		{[]string{uid, start, "RDATE:20240304T090000,20240304T090001"}, api.Event{Uid: "a", Start: when, In: []api.Local{when, when + 1}}},
		{[]string{uid, start, next, uid, again, "STATUS:CANCELLED"}, api.Event{Uid: "a", Start: when, Others: []api.Other{{At: when, Gone: true}}}},
		{[]string{uid, start, next, "STATUS:CANCELLED", again, uid}, api.Event{Uid: "a", Start: when, Others: []api.Other{{At: when, Gone: true}}}},
		{[]string{uid, start, next, uid, again, "DTSTART:19700101T000001"}, api.Event{Uid: "a", Start: when, Others: []api.Other{{At: when, Start: 1}}}},
		{[]string{uid, start, next, uid, again, "DURATION:P1D", `SUMMARY:x\,y`, "DTSTART:19700101T000000"}, api.Event{Uid: "a", Start: when, Others: []api.Other{{At: when, Length: api.Daily, Title: "x,y"}}}},
	} {
		got, err := desk.Import(eventPart(t, c.lines...))
		wantEvent(t, at("14.2: Import of %q", c.lines), got, err, c.want)
	}
	got, err := desk.Import(fullPart())
	wantEvent(t, at("14.2: Import of an event with all"), got, err, full())
	got, err = desk.Import(partOf(t, linesOf(full())...))
	wantEvent(t, at("14.2: Import of an event with all, as a text"), got, err, full())
}

// faults are lines of an event that are refused, and how.
var faults = []struct {
	want  api.Errno
	lines []string
}{
	{api.ErrForm, []string{uid, start, "SEQUENCE:"}},
	{api.ErrForm, []string{uid, start, "SEQUENCE:01"}},
	{api.ErrForm, []string{uid, start, "SEQUENCE:00"}},
	{api.ErrForm, []string{uid, start, "SEQUENCE:-0"}},
	{api.ErrForm, []string{uid, start, "SEQUENCE:-01"}},
	{api.ErrForm, []string{uid, start, "SEQUENCE:-"}},
	{api.ErrForm, []string{uid, start, "SEQUENCE:--1"}},
	{api.ErrForm, []string{uid, start, "SEQUENCE:+1"}},
	{api.ErrForm, []string{uid, start, "SEQUENCE:1_0"}},
	{api.ErrForm, []string{uid, start, "SEQUENCE:1 "}},
	{api.ErrForm, []string{uid, start, "SEQUENCE:0x1"}},
	{api.ErrForm, []string{uid, start, "SEQUENCE:１"}},
	{api.ErrArg, []string{uid, start, "SEQUENCE:-1"}},
	{api.ErrArg, []string{uid, start, "SEQUENCE:1000001"}},
	{api.ErrArg, []string{uid, start, "SEQUENCE:99999999999999999999"}},
	{api.ErrArg, []string{uid, start, "SEQUENCE:18446744073709551617"}},
	{api.ErrForm, []string{uid, start, "SUMMARY:a,b"}},
	{api.ErrForm, []string{uid, start, "SUMMARY:,"}},
	{api.ErrForm, []string{uid, start, "SUMMARY:a;b"}},
	{api.ErrForm, []string{uid, start, `SUMMARY:a\b`}},
	{api.ErrArg, []string{uid, start, `SUMMARY:a\nb`}},
	{api.ErrArg, []string{uid, start, "SUMMARY:" + strings.Repeat("a", api.MaxTitle+1)}},
	{api.ErrMissing, []string{uid}},
	{api.ErrForm, []string{uid, "DTSTART:"}},
	{api.ErrForm, []string{uid, "DTSTART:20240304"}},
	{api.ErrForm, []string{uid, "DTSTART:20240304T0900"}},
	{api.ErrForm, []string{uid, "DTSTART:2024-03-04T09:00:00"}},
	{api.ErrForm, []string{uid, "DTSTART:20240304T090000Z"}},
	{api.ErrForm, []string{uid, "DTSTART:20240304T090000+0000"}},
	{api.ErrForm, []string{uid, "DTSTART:2024064T090000"}},
	{api.ErrForm, []string{uid, "DTSTART:2024W101T090000"}},
	{api.ErrForm, []string{uid, "DTSTART:+020240304T090000"}},
	{api.ErrForm, []string{uid, "DTSTART:-000000304T090000"}},
	{api.ErrForm, []string{uid, "DTSTART:20240304T240000"}},
	{api.ErrForm, []string{uid, "DTSTART:20240304T090000,20240304T090000"}},
	{api.ErrForm, []string{uid, "DTSTART: 20240304T090000"}},
	{api.ErrDate, []string{uid, "DTSTART:20240230T090000"}},
	{api.ErrDate, []string{uid, "DTSTART:2024-02-30T09:00:00"}},
	{api.ErrDate, []string{uid, "DTSTART:20240304T250000"}},
	{api.ErrRange, []string{uid, "DTSTART:+129210819T000000"}},
	{api.ErrRange, []string{uid, "DTSTART:+129210818T240000"}},
	{api.ErrForm, []string{uid, start, "DURATION:"}},
	{api.ErrForm, []string{uid, start, "DURATION:3600"}},
	{api.ErrForm, []string{uid, start, "DURATION:P1M"}},
	{api.ErrForm, []string{uid, start, "DURATION:P1YT1H"}},
	{api.ErrLimit, []string{uid, start, "DURATION:PT123456789S"}},
	{api.ErrArg, []string{uid, start, "DURATION:-PT1H"}},
	{api.ErrArg, []string{uid, start, "DURATION:P400DT1S"}},
	{api.ErrArg, []string{uid, start, "DURATION:P99999999W"}},
	{api.ErrName, []string{uid, "DTSTART;X=1:20240304T090000"}},
	{api.ErrName, []string{uid, "DTSTART;TZID=A,B:20240304T090000"}},
	{api.ErrName, []string{uid, "DTSTART;TZID=A;TZID=A:20240304T090000"}},
	{api.ErrName, []string{uid, "DTSTART;TZID=A;X=1:20240304T090000"}},
	{api.ErrName, []string{uid, "DTSTART;X=1;TZID=A:20240304T090000"}},
	{api.ErrName, []string{uid, "DTSTART;TZID=a b:20240304T090000"}},
	{api.ErrForm, []string{uid, start, "TRANSP:"}},
	{api.ErrForm, []string{uid, start, "TRANSP:transparent"}},
	{api.ErrForm, []string{uid, start, "RRULE:"}},
	{api.ErrForm, []string{uid, start, "RRULE:FREQ=X"}},
	{api.ErrMissing, []string{uid, start, "RRULE:COUNT=1"}},
	{api.ErrExists, []string{uid, start, "RRULE:FREQ=DAILY;FREQ=DAILY"}},
	{api.ErrName, []string{uid, start, "RRULE:FREQ=DAILY;X=1"}},
	{api.ErrState, []string{uid, start, "RRULE:FREQ=WEEKLY;BYMONTHDAY=1"}},
	{api.ErrForm, []string{uid, start, "EXDATE:"}},
	{api.ErrForm, []string{uid, start, "EXDATE:20240304T090000,"}},
	{api.ErrForm, []string{uid, start, "EXDATE:20240304T090000, 20240305T090000"}},
	{api.ErrDate, []string{uid, start, "EXDATE:20240304T090000,20240231T090000,x"}},
	{api.ErrOrder, []string{uid, start, "EXDATE:20240304T090000,20240304T090000"}},
	{api.ErrForm, []string{uid, start, "RDATE:x"}},
	{api.ErrDate, []string{uid, start, "RDATE:20240231T090000"}},
	{api.ErrOrder, []string{uid, start, "RDATE:20240305T090000,20240304T090000"}},
	{api.ErrName, []string{start}},
	{api.ErrName, []string{"UID:", start}},
	{api.ErrName, []string{"UID:a b", start}},
	{api.ErrName, []string{uid, start, next, again, "STATUS:CANCELLED"}},
	{api.ErrName, []string{uid, start, next, "UID:A", again, "STATUS:CANCELLED"}},
	{api.ErrName, []string{uid, start, next, uid, again, "DTSTART;TZID=X:20240304T090000"}},
	{api.ErrName, []string{uid, start, next, uid, "STATUS:x", "DTSTART;TZID=X:20240304T090000"}},
	{api.ErrForm, []string{uid, start, next, uid, "STATUS:CANCELLED"}},
	{api.ErrForm, []string{uid, start, next, uid, start}},
	{api.ErrForm, []string{uid, start, next, uid, "RECURRENCE-ID:20240304", start}},
	{api.ErrDate, []string{uid, start, next, uid, "RECURRENCE-ID:20240231T090000", start}},
	{api.ErrForm, []string{uid, start, next, uid, again, "STATUS:"}},
	{api.ErrForm, []string{uid, start, next, uid, again, "STATUS:CONFIRMED"}},
	{api.ErrForm, []string{uid, start, next, uid, again, "STATUS:CANCELLED", start}},
	{api.ErrForm, []string{uid, start, next, uid, again, "STATUS:CANCELLED", "SUMMARY:"}},
	{api.ErrForm, []string{uid, start, next, uid, again, "STATUS:CANCELLED", "DURATION:PT0S"}},
	{api.ErrForm, []string{start, next, again, "STATUS:CANCELLED"}},
	{api.ErrForm, []string{start, next, again, "STATUS:CANCELLED", "SUMMARY:"}},
	{api.ErrName, []string{start, next, "UID:", again, "STATUS:CANCELLED"}},
	{api.ErrMissing, []string{uid, start, next, uid, again}},
	{api.ErrMissing, []string{uid, start, next, uid, again, "SUMMARY:x", "DURATION:P1D"}},
	{api.ErrForm, []string{uid, start, next, uid, again, start, "SUMMARY:x,y"}},
	{api.ErrDate, []string{uid, start, next, uid, again, "DTSTART:20240231T090000"}},
	{api.ErrForm, []string{uid, start, next, uid, again, start, "DURATION:P1Y"}},
	{api.ErrArg, []string{uid, start, next, uid, again, start, "DURATION:-PT1S"}},
	{api.ErrOrder, []string{uid, start, next, uid, again, start, next, uid, again, start}},
}

func TestImportFaults(t *testing.T) {
	for _, c := range faults {
		got, err := desk.Import(eventPart(t, c.lines...))
		wantError(t, at("14.2: Import of %q", c.lines), got, err, c.want)
	}
}

func TestImportNames(t *testing.T) {
	lines := strings.Fields("UID SEQUENCE SUMMARY DTSTART DURATION TRANSP RRULE EXDATE RDATE RECURRENCE-ID STATUS X uid BEGIN")
	for _, part := range []struct {
		ahead, may string
	}{
		{"", "UID SEQUENCE SUMMARY DTSTART DURATION TRANSP RRULE EXDATE RDATE"},
		{"ahead", "UID RECURRENCE-ID STATUS SUMMARY DTSTART DURATION"},
	} {
		for _, name := range lines {
			build := func(of ...api.Line) api.Part {
				if part.ahead == "" {
					return calendar(of)
				}
				return calendar([]api.Line{line("UID", "a"), line("DTSTART", "20240304T090000")}, of)
			}
			may := strings.Contains(" "+part.may+" ", " "+name+" ")
			_, err := desk.Import(build(line(name, ""), line("Y", "")))
			if err != api.ErrName {
				t.Errorf("14.2: Import of lines %q and Y: %v", name, err)
			}
			_, err = desk.Import(build(line(name, ""), line(name, "")))
			if want := map[bool]api.Errno{true: api.ErrExists, false: api.ErrName}[may]; err != want {
				t.Errorf("14.2: Import of a line %q twice (ahead of it an event: %q): %v; error %d is wanted", name, part.ahead, err, want)
			}
			_, err = desk.Import(build(lineWith(name, "X", "1", ""), line(name, "")))
			if want := map[bool]api.Errno{true: api.ErrExists, false: api.ErrName}[name == "DTSTART"]; err != want {
				t.Errorf("14.2: Import of a line %q with a param: %v; error %d is wanted", name, err, want)
			}
		}
	}
}

func TestImportParts(t *testing.T) {
	good := []api.Line{line("UID", "a"), line("DTSTART", "20240304T090000")}
	bad := []api.Line{line("X", "")}
	with := func(p api.Part, f func(p *api.Part)) api.Part {
		f(&p)
		return p
	}
	for _, c := range []struct {
		what string
		in   api.Part
		want api.Errno
	}{
		{"nothing", api.Part{}, api.ErrForm},
		{"another name", with(calendar(good), func(p *api.Part) { p.Name = "VEVENT" }), api.ErrForm},
		{"a name of small letters", with(calendar(good), func(p *api.Part) { p.Name = "vcalendar" }), api.ErrForm},
		{"a line", with(calendar(good), func(p *api.Part) { p.Lines = good[:1] }), api.ErrForm},
		{"no part", calendar(), api.ErrForm},
		{"an event without lines", calendar(nil), api.ErrMissing},
		{"another part", with(calendar(good), func(p *api.Part) { p.Parts[0].Name = "VTODO" }), api.ErrForm},
		{"another part behind", with(calendar(good, good), func(p *api.Part) { p.Parts[1].Name = "VALARM" }), api.ErrForm},
		{"parts of an event", with(calendar(good), func(p *api.Part) { p.Parts[0].Parts = []api.Part{{Name: "VALARM"}} }), api.ErrForm},
		{"a part of an event, ahead of its lines", with(calendar(bad), func(p *api.Part) { p.Parts[0].Parts = []api.Part{{Name: "VALARM"}} }), api.ErrForm},
		{"lines, ahead of a later part", with(calendar(bad, good), func(p *api.Part) { p.Parts[1].Name = "X" }), api.ErrName},
		{"a later part, ahead of what lines say", with(calendar([]api.Line{line("SEQUENCE", "x")}, good), func(p *api.Part) { p.Parts[1].Name = "X" }), api.ErrForm},
		{"a later part's lines, ahead of what the event's say", calendar([]api.Line{line("SEQUENCE", "x")}, bad), api.ErrName},
		{"a later part's lines twice, ahead of what the event's say", calendar(good[:1], []api.Line{line("UID", ""), line("UID", "")}), api.ErrExists},
		{"what the event's lines say, ahead of a later part's", calendar(good[:1], []api.Line{line("UID", "b")}), api.ErrMissing},
		{"what a part says, ahead of the next one's", calendar(good, []api.Line{line("UID", "a")}, []api.Line{line("UID", "b")}), api.ErrForm},
		{"a part, ahead of what Check says of the event", calendar(append([]api.Line{line("SEQUENCE", "-1")}, good...), []api.Line{line("UID", "b")}), api.ErrName},
	} {
		got, err := desk.Import(c.in)
		wantError(t, at("14.2: Import of %s", c.what), got, err, c.want)
	}
}

// TestImportOrder: of two faults of an event's lines the one told first is answered, in whatever order the lines stand.
func TestImportOrder(t *testing.T) {
	steps := []struct {
		name, value string
		want        api.Errno
	}{
		{"SEQUENCE", "x", api.ErrForm},
		{"SUMMARY", "a,b", api.ErrForm},
		{"DTSTART", "20240231T000000", api.ErrDate},
		{"DURATION", "PT123456789S", api.ErrLimit},
		{"PARAMS", "", api.ErrName},
		{"TRANSP", "x", api.ErrForm},
		{"RRULE", "RSCALE=X;FREQ=DAILY", api.ErrCal},
		{"EXDATE", "20240231T000000", api.ErrDate},
		{"RDATE", "+129210819T000000", api.ErrRange},
		{"UID", "a b", api.ErrName},
	}
	for i, a := range steps {
		for j, b := range steps {
			if i == j {
				continue
			}
			begin := line("DTSTART", "20240304T090000")
			var lines []api.Line
			for _, s := range []struct{ name, value string }{{a.name, a.value}, {b.name, b.value}} {
				switch s.name {
				case "DTSTART":
					begin.Value = s.value
				case "PARAMS":
					begin.Params = []api.Param{{Name: "X", Values: []string{"1"}}}
				default:
					lines = append(lines, line(s.name, s.value))
				}
			}
			want := steps[min(i, j)].want
			got, err := desk.Import(calendar(append(lines, begin)))
			wantError(t, at("14.2: Import of an event with faults in %s and %s", a.name, b.name), got, err, want)
		}
	}
}

func TestImportKeepsNothing(t *testing.T) {
	p := fullPart()
	e, err := desk.Import(p)
	wantEvent(t, at("14.2: Import"), e, err, full())
	wantPart(t, at("P4: the part behind Import"), p, nil, fullPart())
	for i := range p.Parts {
		for j := range p.Parts[i].Lines {
			l := &p.Parts[i].Lines[j]
			if len(l.Params) > 0 {
				l.Params[0].Values[0] = "Q"
			}
			*l = api.Line{}
		}
	}
	wantEvent(t, at("P4: the event behind a change of the part"), e, nil, full())
	e.Out[0], e.In[0], e.Others[0], e.Rule.Days[0] = 1, 1, api.Other{}, api.Nth{}
	again, err := desk.Import(fullPart())
	wantEvent(t, at("P4: Import once more"), again, err, full())
	if fmt.Sprint(again) == fmt.Sprint(e) {
		t.Errorf("P4: a change of what Import told is told again")
	}
}
