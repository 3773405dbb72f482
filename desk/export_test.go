package desk_test

import (
	"fmt"
	"slices"
	"strings"
	"testing"

	"almanac/api"
	"almanac/desk"
	"almanac/text"
)

// full has something of everything.
func full() api.Event {
	return api.Event{
		Uid: "full", Seq: 7, Title: `tea, cake; a \ and more`, Zone: "Europe/Berlin", Start: local("20240304T090000"), Length: 5400, Free: true,
		Repeats: true, Rule: ruleOf("FREQ=WEEKLY;INTERVAL=2;BYDAY=MO,FR;UNTIL=20250101T000000"),
		Out: locals("20240308T090000", "20240318T090000"),
		In:  locals("20240305T080000"),
		Others: []api.Other{
			{At: local("20240401T090000"), Gone: true},
			{At: local("20240415T090000"), Start: local("20240416T103015"), Length: 61, Title: "late, but there"},
			{At: local("20240429T090000"), Start: local("20240429T090000")},
		},
	}
}

func line(name, value string) api.Line { return api.Line{Name: name, Value: value} }

// lineWith is a line with a param of one value.
func lineWith(name, param, value, v string) api.Line {
	return api.Line{Name: name, Params: []api.Param{{Name: param, Values: []string{value}}}, Value: v}
}

// calendar is a part with an event, and what is other at some of its times: lists of lines.
func calendar(lists ...[]api.Line) api.Part {
	p := api.Part{Name: "VCALENDAR"}
	for _, l := range lists {
		p.Parts = append(p.Parts, api.Part{Name: "VEVENT", Lines: l})
	}
	return p
}

// fullPart is full, written line by line.
func fullPart() api.Part {
	return calendar(
		[]api.Line{
			line("UID", "full"), line("SEQUENCE", "7"), line("SUMMARY", `tea\, cake\; a \\ and more`),
			lineWith("DTSTART", "TZID", "Europe/Berlin", "20240304T090000"), line("DURATION", "PT1H30M"), line("TRANSP", "TRANSPARENT"),
			line("RRULE", "FREQ=WEEKLY;INTERVAL=2;UNTIL=20250101T000000;BYDAY=MO,FR"),
			line("EXDATE", "20240308T090000,20240318T090000"), line("RDATE", "20240305T080000"),
		},
		[]api.Line{line("UID", "full"), line("RECURRENCE-ID", "20240401T090000"), line("STATUS", "CANCELLED")},
		[]api.Line{line("UID", "full"), line("RECURRENCE-ID", "20240415T090000"), line("SUMMARY", `late\, but there`), line("DTSTART", "20240416T103015"), line("DURATION", "PT1M1S")},
		[]api.Line{line("UID", "full"), line("RECURRENCE-ID", "20240429T090000"), line("SUMMARY", ""), line("DTSTART", "20240429T090000"), line("DURATION", "PT0S")},
	)
}

func TestExport(t *testing.T) {
	rest := []api.Line{line("SEQUENCE", "0"), line("SUMMARY", ""), line("DTSTART", "19700101T000000"), line("DURATION", "PT0S")}
	least := func(more ...api.Line) api.Part {
		return calendar(append(append([]api.Line{line("UID", "a")}, rest...), more...))
	}
	for _, c := range []struct {
		what string
		in   api.Event
		want api.Part
	}{
		{"an event with all", full(), fullPart()},
		{"one with nothing", api.Event{Uid: "a"}, least()},
		{"free", api.Event{Uid: "a", Free: true}, least(line("TRANSP", "TRANSPARENT"))},
		{"a rule", api.Event{Uid: "a", Repeats: true, Rule: ruleOf("FREQ=DAILY")}, least(line("RRULE", "FREQ=DAILY"))},
		{"a rule that says nothing", api.Event{Uid: "a", Rule: ruleOf("FREQ=DAILY")}, least()},
		{"one time left out", api.Event{Uid: "a", Out: locals("20240304T090000")}, least(line("EXDATE", "20240304T090000"))},
		{"two times more", api.Event{Uid: "a", In: locals("20240304T090000", "20240305T000001")}, least(line("RDATE", "20240304T090000,20240305T000001"))},
		{"lists without times", api.Event{Uid: "a", Out: []api.Local{}, In: []api.Local{}, Others: []api.Other{}}, least()},
	} {
		got, err := desk.Export(c.in)
		wantPart(t, at("14.1: Export of %s", c.what), got, err, c.want)
	}
}

func TestExportLines(t *testing.T) {
	for _, c := range []struct {
		in   api.Event
		want api.Line
	}{
		{api.Event{Uid: "a", Seq: 1_000_000}, line("SEQUENCE", "1000000")},
		{api.Event{Uid: "a", Title: "ä,b"}, line("SUMMARY", `ä\,b`)},
		{api.Event{Uid: "a", Length: api.Daily}, line("DURATION", "PT24H")},
		{api.Event{Uid: "a", Length: 400 * api.Daily}, line("DURATION", "PT9600H")},
		{api.Event{Uid: "a", Length: 59}, line("DURATION", "PT59S")},
		{api.Event{Uid: "a", Start: firstTime}, line("DTSTART", "-089820517T000000")},
		{api.Event{Uid: "a", Start: lastTime}, line("DTSTART", "+129210818T235959")},
		{api.Event{Uid: "a", Start: local("00000101T000000") - 1}, line("DTSTART", "-000011231T235959")},
		{api.Event{Uid: "a", Start: local("00000101T000000")}, line("DTSTART", "00000101T000000")},
		{api.Event{Uid: "a", Start: local("99991231T235959")}, line("DTSTART", "99991231T235959")},
		{api.Event{Uid: "a", Start: local("99991231T235959") + 1}, line("DTSTART", "+100000101T000000")},
		{api.Event{Uid: "a", Zone: "-"}, lineWith("DTSTART", "TZID", "-", "19700101T000000")},
		{api.Event{Uid: "a", Out: []api.Local{firstTime, 0, lastTime}}, line("EXDATE", "-089820517T000000,19700101T000000,+129210818T235959")},
	} {
		p, err := desk.Export(c.in)
		if err != nil || !slices.ContainsFunc(p.Parts[0].Lines, func(l api.Line) bool { return fmt.Sprintf("%+q", l) == fmt.Sprintf("%+q", c.want) }) {
			t.Errorf("14.1: Export(%+v): %+q, %v; the line %+q is wanted", c.in, p, err, c.want)
		}
	}
}

func TestExportErrors(t *testing.T) {
	for _, c := range []struct {
		what string
		in   func(e *api.Event)
		want api.Errno
	}{
		{"no name", func(e *api.Event) { e.Uid = "" }, api.ErrName},
		{"a zone that has no name", func(e *api.Event) { e.Zone = "a b" }, api.ErrName},
		{"a number below 0", func(e *api.Event) { e.Seq = -1 }, api.ErrArg},
		{"a title with a control", func(e *api.Event) { e.Title = "a\nb" }, api.ErrArg},
		{"a long title", func(e *api.Event) { e.Title = strings.Repeat("a", api.MaxTitle+1) }, api.ErrArg},
		{"a length below 0", func(e *api.Event) { e.Length = -1 }, api.ErrArg},
		{"a start that is not there", func(e *api.Event) { e.Start = lastTime + 1 }, api.ErrRange},
		{"times that do not rise", func(e *api.Event) { e.Out = []api.Local{2, 1} }, api.ErrOrder},
		{"too many times", func(e *api.Event) { e.In = make([]api.Local, api.MaxList+1) }, api.ErrLimit},
		{"what is gone has a title", func(e *api.Event) { e.Others[0].Title = "x" }, api.ErrArg},
		{"a rule that may not be", func(e *api.Event) { e.Rule.Freq = 0 }, api.ErrArg},
		{"two faults", func(e *api.Event) { e.Uid, e.Length = "", -1 }, api.ErrName},
	} {
		e := full()
		c.in(&e)
		p, err := desk.Export(e)
		wantError(t, at("14.1: Export of an event with %s", c.what), p, err, c.want)
	}
}

func TestExportKeepsNothing(t *testing.T) {
	e := full()
	p, err := desk.Export(e)
	wantPart(t, at("14.1: Export"), p, err, fullPart())
	wantEvent(t, at("P4: the event behind Export"), e, nil, full())
	for i := range p.Parts {
		for j := range p.Parts[i].Lines {
			p.Parts[i].Lines[j].Params = append(p.Parts[i].Lines[j].Params, api.Param{Name: "X"})
			p.Parts[i].Lines[j].Value = "x"
		}
		_ = append(p.Parts[i].Lines[:0], line("X", ""))
	}
	wantEvent(t, at("P4: the event behind a change of what Export told"), e, nil, full())
	again, err := desk.Export(e)
	wantPart(t, at("P4: Export once more"), again, err, fullPart())
	again.Parts[0].Lines = append(again.Parts[0].Lines, line("X", "1"))
	if again.Parts[1].Lines[0].Name != "UID" {
		t.Errorf("P6: two lists of Export share something: %+q", again)
	}
}

func TestExportIsPrinted(t *testing.T) {
	e := full()
	for i := range 60 {
		e.Out = append(e.Out, local("20250101T000000")+api.Local(i))
		e.In = append(e.In, local("20250101T000000")+api.Local(i))
	}
	e.Out, e.In = e.Out[len(e.Out)-60:], e.In[len(e.In)-60:]
	p, err := desk.Export(e)
	if err != nil {
		t.Fatalf("14.1: Export: %v", err)
	}
	s, err := text.Print(p)
	if err != nil || !strings.HasPrefix(s, "BEGIN:VCALENDAR\r\nBEGIN:VEVENT\r\nUID:full\r\nSEQUENCE:7\r\n") {
		t.Errorf("14.1: Print of Export: %q, %v", first(s, 200), err)
	}
	back, err := text.Parse(s)
	if err != nil {
		t.Fatalf("14.1: Parse of Print of Export: %v", err)
	}
	got, err := desk.Import(back)
	wantEvent(t, at("14.2: Import of Parse of Print of Export"), got, err, e)
}
