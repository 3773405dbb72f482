package desk_test

import (
	"fmt"
	"math/rand"
	"regexp"
	"slices"
	"strconv"
	"strings"
	"testing"
	"time"

	"almanac/api"
	"almanac/book"
	"almanac/clock"
	"almanac/desk"
	"almanac/rule"
	"almanac/text"
)

// A model of 14.2: all that may be wrong, in the order in which it is asked.

var (
	numberForm  = regexp.MustCompile(`^(0|-?[1-9][0-9]*)$`)
	compactForm = regexp.MustCompile(`^(\d{4}|[+-]\d{5})\d{4}T\d{6}$`)
	periodForm  = regexp.MustCompile(`^(-?)P(?:(\d+)Y)?(?:(\d+)M)?(?:(\d+)W)?(?:(\d+)D)?(?:T(?:(\d+)H)?(?:(\d+)M)?(?:(\d+)S)?)?$`)
)

// modelTime reads a time.
func modelTime(s string) (api.Local, api.Errno) {
	stamp, err := clock.Parse(s)
	if err != nil {
		return 0, api.Tell(err)
	}
	if !compactForm.MatchString(s) || compact(stamp.Local) != s {
		return 0, api.ErrForm
	}
	return stamp.Local, api.OK
}

// modelLength reads how long something is.
func modelLength(s string) (int, api.Errno) {
	if _, err := clock.ParsePeriod(s); err != nil {
		return 0, api.Tell(err)
	}
	total := 0
	for i, text := range periodForm.FindStringSubmatch(s)[2:] {
		n, _ := strconv.Atoi(text)
		if i < 2 && n != 0 {
			return 0, api.ErrForm
		}
		total += n * []int{0, 0, 7 * 86400, 86400, 3600, 60, 1}[i]
	}
	if s[0] == '-' {
		total = -total
	}
	return total, api.OK
}

// modelLines are the values of a part's lines, and whether there are such lines.
type modelLines struct {
	value  map[string]string
	params []api.Param
}

// has says whether there is a line.
func (m modelLines) has(name string) bool {
	_, ok := m.value[name]
	return ok
}

// modelLinesOf reads a part's lines.
func modelLinesOf(p api.Part, may string) (modelLines, api.Errno) {
	m := modelLines{value: map[string]string{}}
	if p.Name != "VEVENT" || len(p.Parts) != 0 {
		return m, api.ErrForm
	}
	for _, l := range p.Lines {
		switch {
		case m.has(l.Name):
			return m, api.ErrExists
		case !slices.Contains(strings.Fields(may), l.Name), l.Name != "DTSTART" && len(l.Params) > 0:
			return m, api.ErrName
		case l.Name == "DTSTART":
			m.params = l.Params
		}
		m.value[l.Name] = l.Value
	}
	return m, api.OK
}

// what reads what takes place, when, and how long.
func (m modelLines) what() (title string, start api.Local, length int, fault api.Errno) {
	items, err := text.Items(m.value["SUMMARY"])
	switch {
	case err != nil:
		return "", 0, 0, api.Tell(err)
	case len(items) != 1:
		return "", 0, 0, api.ErrForm
	case !m.has("DTSTART"):
		return "", 0, 0, api.ErrMissing
	}
	start, fault = modelTime(m.value["DTSTART"])
	if fault == api.OK && m.has("DURATION") {
		length, fault = modelLength(m.value["DURATION"])
	}
	return items[0], start, length, fault
}

// times reads the times of a line.
func (m modelLines) times(name string) (l []api.Local, fault api.Errno) {
	if !m.has(name) {
		return nil, api.OK
	}
	for _, s := range strings.Split(m.value[name], ",") {
		t, fault := modelTime(s)
		if fault != api.OK {
			return nil, fault
		}
		l = append(l, t)
	}
	return l, api.OK
}

// modelEvent reads an event's lines, one question after the other.
func modelEvent(m modelLines) (e api.Event, fault api.Errno) {
	e.Uid = m.value["UID"]
	for _, ask := range []func(){
		func() {
			if s := m.value["SEQUENCE"]; m.has("SEQUENCE") {
				if !numberForm.MatchString(s) {
					fault = api.ErrForm
				}
				e.Seq = 1_000_001
				if len(strings.TrimPrefix(s, "-")) < 8 {
					e.Seq, _ = strconv.Atoi(s)
				}
			}
		},
		func() { e.Title, e.Start, e.Length, fault = m.what() },
		func() {
			if fmt.Sprint(m.params) == "[]" {
				return
			}
			if len(m.params) != 1 || m.params[0].Name != "TZID" || len(m.params[0].Values) != 1 {
				fault = api.ErrName
				return
			}
			e.Zone = m.params[0].Values[0]
		},
		func() {
			if m.has("TRANSP") && !slices.Contains([]string{"TRANSPARENT", "OPAQUE"}, m.value["TRANSP"]) {
				fault = api.ErrForm
			}
			e.Free = m.value["TRANSP"] == "TRANSPARENT"
		},
		func() {
			if e.Repeats = m.has("RRULE"); e.Repeats {
				r, err := rule.Parse(m.value["RRULE"])
				e.Rule, fault = r, api.Tell(err)
			}
		},
		func() { e.Out, fault = m.times("EXDATE") },
		func() { e.In, fault = m.times("RDATE") },
	} {
		if ask(); fault != api.OK {
			return e, fault
		}
	}
	return e, api.OK
}

// modelOther reads what is other at one of an event's times.
func modelOther(m modelLines, uid string) (o api.Other, fault api.Errno) {
	if m.value["UID"] != uid || len(m.params) > 0 {
		return o, api.ErrName
	}
	if o.At, fault = modelTime(m.value["RECURRENCE-ID"]); fault != api.OK {
		return o, fault
	}
	if m.has("STATUS") {
		names := []string{}
		for name := range m.value {
			names = append(names, name)
		}
		slices.Sort(names)
		if m.value["STATUS"] != "CANCELLED" || fmt.Sprint(names) != "[RECURRENCE-ID STATUS UID]" {
			return o, api.ErrForm
		}
		o.Gone = true
		return o, api.OK
	}
	o.Title, o.Start, o.Length, fault = m.what()
	return o, fault
}

// modelImport reads an event.
func modelImport(p api.Part) (api.Event, api.Errno) {
	if p.Name != "VCALENDAR" || len(p.Lines) > 0 || len(p.Parts) < 1 {
		return api.Event{}, api.ErrForm
	}
	var all []modelLines
	for i, one := range p.Parts {
		may := "UID RECURRENCE-ID STATUS SUMMARY DTSTART DURATION"
		if i == 0 {
			may = "UID SEQUENCE SUMMARY DTSTART DURATION TRANSP RRULE EXDATE RDATE"
		}
		m, fault := modelLinesOf(one, may)
		if fault != api.OK {
			return api.Event{}, fault
		}
		all = append(all, m)
	}
	e, fault := modelEvent(all[0])
	for _, m := range all[1:] {
		if fault == api.OK {
			var o api.Other
			o, fault = modelOther(m, e.Uid)
			e.Others = append(e.Others, o)
		}
	}
	if fault == api.OK {
		fault = api.Tell(book.Check(e))
	}
	if fault != api.OK {
		return api.Event{}, fault
	}
	return e, api.OK
}

// drawTimes are times that rise.
func drawTimes(d *rand.Rand, most int) []api.Local {
	var l []api.Local
	t := drawTime(d)
	for range d.Intn(most + 1) {
		l = append(l, t)
		t += api.Local(1 + d.Intn(3*api.Daily))
	}
	return l
}

// drawTime is a time, mostly of our days.
func drawTime(d *rand.Rand) api.Local {
	switch d.Intn(6) {
	case 0:
		return api.Local(d.Int63n(8*api.MaxDay*api.Daily/10) - 4*api.MaxDay*api.Daily/10)
	case 1:
		return local("00000101T000000") + api.Local(d.Intn(3)-1)
	}
	return local("20240301T000000") + api.Local(d.Intn(60*api.Daily))
}

// drawEvent is an event that may be.
func drawEvent(d *rand.Rand) api.Event {
	titles := []string{"", "tea", `a,b;c\d`, `\n`, "ä€", " x ", strings.Repeat(",", api.MaxTitle)}
	rules := []string{"FREQ=DAILY", "FREQ=WEEKLY;COUNT=4", "FREQ=MONTHLY;BYDAY=-1FR;BYHOUR=9,10", "RSCALE=HEBREW;FREQ=YEARLY;UNTIL=-000440315T120000"}
	e := api.Event{
		Uid: []string{"a", "b-1_./@Z", strings.Repeat("x", 40)}[d.Intn(3)], Seq: d.Intn(4) * 333_333, Title: titles[d.Intn(len(titles))],
		Zone: []string{"", "X", "Europe/Berlin", "-"}[d.Intn(4)], Start: drawTime(d), Length: d.Intn(3) * d.Intn(200*api.Daily), Free: d.Intn(2) == 0,
		Out: drawTimes(d, 3), In: drawTimes(d, 3),
	}
	if d.Intn(2) == 0 {
		e.Repeats, e.Rule = true, ruleOf(rules[d.Intn(len(rules))])
	}
	for _, t := range drawTimes(d, 3) {
		o := api.Other{At: t, Gone: d.Intn(2) == 0}
		if !o.Gone {
			o.Start, o.Length, o.Title = drawTime(d), d.Intn(100_000), titles[d.Intn(len(titles))]
		}
		e.Others = append(e.Others, o)
	}
	return e
}

// TestExportDrawn holds what Export tells against lines that the tests write, and what Import makes of it against the event.
func TestExportDrawn(t *testing.T) {
	d := rand.New(rand.NewSource(14))
	for range 2000 {
		e := drawEvent(d)
		p, err := desk.Export(e)
		wantPart(t, at("14.1: Export(%+v)", e), p, err, partOf(t, strings.Split(strings.Join(linesOf(e), "\n"), "\n")...))
		back, err := desk.Import(p)
		wantEvent(t, at("14.2: Import(%+q)", p), back, err, e)
		s, err := text.Print(p)
		if err != nil {
			t.Fatalf("14.1: Print of Export(%+v): %v", e, err)
		}
		read, err := text.Parse(s)
		wantPart(t, at("14.1: Parse of Print of Export(%+v)", e), read, err, p)
	}
}

// spoil makes a part another one at some places.
func spoil(d *rand.Rand, p *api.Part) {
	names := strings.Fields("UID SEQUENCE SUMMARY DTSTART DURATION TRANSP RRULE EXDATE RDATE RECURRENCE-ID STATUS X")
	values := []string{"", "a", "0", "-1", "01", "1000001", "99999999999999999999", "a,b", "a;b", `a\,b`, "20240304T090000", "20240304T090000,20240305T090000",
		"20240304T090000,20240304T090000", "20240231T000000", "2024-03-04T09:00:00", "20240304T090000Z", "20240304T240000", "+129210819T000000", "-000440315T120000",
		"PT1H", "P1M", "P0M1D", "-PT1S", "P1W2D", "PT123456789S", "P401D", "TRANSPARENT", "OPAQUE", "CANCELLED", "FREQ=DAILY", "FREQ=DAILY;BYWEEKNO=1", "COUNT=1", "x=1"}
	params := [][]api.Param{nil, {{Name: "TZID", Values: []string{"X"}}}, {{Name: "TZID", Values: []string{"X", "Y"}}}, {{Name: "X", Values: []string{"X"}}},
		{{Name: "TZID", Values: []string{"X"}}, {Name: "TZID", Values: []string{"Y"}}}, {{Name: "TZID", Values: []string{"a b"}}}, {{Name: "TZID"}}}
	if d.Intn(40) == 0 {
		switch d.Intn(5) {
		case 0:
			p.Name = "VEVENT"
		case 1:
			p.Lines = append(p.Lines, line("UID", "a"))
		case 2:
			p.Parts = nil
		case 3:
			p.Parts[d.Intn(len(p.Parts))].Name = "VTODO"
		case 4:
			p.Parts[d.Intn(len(p.Parts))].Parts = []api.Part{{Name: "VALARM"}}
		}
		return
	}
	part := &p.Parts[d.Intn(len(p.Parts))]
	i := d.Intn(len(part.Lines) + 1)
	if i == len(part.Lines) {
		part.Lines = append(part.Lines, line(names[d.Intn(len(names))], values[d.Intn(len(values))]))
		return
	}
	l := &part.Lines[i]
	switch d.Intn(6) {
	case 0:
		part.Lines = slices.Delete(part.Lines, i, i+1)
	case 1:
		part.Lines[0], *l = *l, part.Lines[0]
	case 2:
		l.Name = names[d.Intn(len(names))]
	case 3, 4:
		l.Value = values[d.Intn(len(values))]
	case 5:
		l.Params = params[d.Intn(len(params))]
	}
}

// TestImportDrawn holds Import against the model, of parts that are spoilt here and there.
func TestImportDrawn(t *testing.T) {
	d := rand.New(rand.NewSource(15))
	seen := map[api.Errno]int{}
	for range 12_000 {
		p, err := desk.Export(drawEvent(d))
		if err != nil {
			t.Fatalf("14.1: %v", err)
		}
		for range d.Intn(4) {
			if len(p.Parts) > 0 {
				spoil(d, &p)
			}
		}
		want, fault := modelImport(p)
		got, err := desk.Import(p)
		if fault == api.OK {
			wantEvent(t, at("14.2: Import(%+q)", p), got, err, want)
		} else {
			wantError(t, at("14.2: Import(%+q)", p), got, err, fault)
		}
		seen[fault]++
	}
	for _, n := range []api.Errno{api.OK, api.ErrArg, api.ErrDate, api.ErrRange, api.ErrForm, api.ErrLimit, api.ErrOrder, api.ErrName, api.ErrMissing, api.ErrExists, api.ErrState} {
		if seen[n] < 2 {
			t.Errorf("too few parts that are answered by error %d: %v", n, seen)
		}
	}
}

// TestCompact holds times of all kinds against the library of Go.
func TestCompact(t *testing.T) {
	for _, l := range []api.Local{firstTime, firstTime + 1, -1, 0, 1, lastTime - 1, lastTime, local("00000101T000000") - 1, local("00000101T000000"), local("99991231T235959"), local("99991231T235959") + 1} {
		e := api.Event{Uid: "a", Start: l}
		want := compact(l)
		p, err := desk.Export(e)
		if err != nil || p.Parts[0].Lines[3].Value != want {
			t.Errorf("14.1: the time %d: %+q, %v; %s is wanted", l, p, err, want)
		}
		got, err := desk.Import(calendar([]api.Line{line("UID", "a"), line("DTSTART", want)}))
		wantEvent(t, at("14.1: the time %s is read", want), got, err, e)
	}
	if compact(0) != time.Unix(0, 0).UTC().Format("20060102T150405") {
		t.Errorf("the tests write times otherwise than Go: %s", compact(0))
	}
}
