package desk_test

import (
	"fmt"
	"reflect"
	"strconv"
	"strings"
	"testing"
	"time"

	"almanac/api"
	"almanac/desk"
	"almanac/rule"
	"almanac/text"
)

const (
	hour      = 3600
	firstTime = api.Local(-api.MaxDay * api.Daily)
	lastTime  = api.Local(api.MaxTime)
	central   = "rule EU 1981 max 3 last7 01:00u +01:00\nrule EU 1996 max 10 last7 01:00u +00:00\nera +01:00 EU"
)

// at tells where a test is; only what fails asks for it.
func at(format string, args ...any) func() string {
	return func() string { return fmt.Sprintf(format, args...) }
}

// wantError says whether a call told this error, without a place, and else its zero value.
func wantError[T any](t *testing.T, what func() string, got T, err error, want api.Errno) {
	t.Helper()
	var zero T
	if err != want || !reflect.DeepEqual(got, zero) {
		t.Errorf("%s: %+v, %v; error %d is wanted, without a place, and the zero value", what(), got, err, want)
	}
}

// wantPart says whether a call answered this part, and no error: an empty list may be nil.
func wantPart(t *testing.T, what func() string, got api.Part, err error, want api.Part) {
	t.Helper()
	if err != nil || fmt.Sprintf("%+q", got) != fmt.Sprintf("%+q", want) {
		t.Errorf("%s: %+q, %v; %+q is wanted", what(), got, err, want)
	}
}

// wantEvent says whether a call answered this event, and no error: an empty list may be nil.
func wantEvent(t *testing.T, what func() string, got api.Event, err error, want api.Event) {
	t.Helper()
	if err != nil || !reflect.DeepEqual(bare(got), bare(want)) {
		t.Errorf("%s: %+v, %v; %+v is wanted", what(), got, err, want)
	}
}

// bare is an event whose lists that are empty are nil, and whose rule is none where it does not repeat.
func bare(e api.Event) api.Event {
	if !e.Repeats {
		e.Rule = api.Rule{}
	}
	v := reflect.ValueOf(&e).Elem()
	for _, fields := range []reflect.Value{v, v.FieldByName("Rule")} {
		for i := range fields.NumField() {
			if f := fields.Field(i); f.Kind() == reflect.Slice && f.Len() == 0 {
				f.SetZero()
			}
		}
	}
	return e
}

// step is a line of a session (with its block), and by what it is answered.
type step struct{ line, answer string }

// wantSteps says whether the lines of a session are answered so.
func wantSteps(t *testing.T, what string, steps ...step) {
	t.Helper()
	var lines, answers []string
	for _, s := range steps {
		lines = append(lines, s.line)
		answers = append(answers, s.answer)
	}
	wantSession(t, what, strings.Join(lines, "\n"), strings.Join(answers, "\n")+"\n")
}

// wantSession says whether a session is answered so; else it tells where the answer begins to be another one.
func wantSession(t *testing.T, what, session, want string) {
	t.Helper()
	got := desk.Session(session)
	if got == want {
		return
	}
	g, w := strings.Split(got, "\n"), strings.Split(want, "\n")
	i := 0
	for i < len(g) && i < len(w) && g[i] == w[i] {
		i++
	}
	t.Errorf("%s: from line %d on the answer is %q; %q is wanted; the session:\n%s", what, i, few(g[i:]), few(w[i:]), first(session, 3000))
}

// few are the first of some lines.
func few(lines []string) []string { return lines[:min(len(lines), 5)] }

// first is what a text begins with.
func first(s string, most int) string { return s[:min(len(s), most)] }

// ok are lines that are all answered by ok.
func ok(lines ...string) []step {
	var l []step
	for _, line := range lines {
		l = append(l, step{line, "ok"})
	}
	return l
}

// fails are lines that are all answered by one error.
func fails(want api.Errno, lines ...string) []step {
	var l []step
	for _, line := range lines {
		l = append(l, step{line, wrong(want)})
	}
	return l
}

// wrong is how an error is told.
func wrong(n api.Errno) string { return "error " + strconv.Itoa(int(n)) }

// join puts steps behind each other.
func join(all ...[]step) []step {
	var l []step
	for _, one := range all {
		l = append(l, one...)
	}
	return l
}

// zoneLine is a line that tells a zone.
func zoneLine(name, block string) string { return "zone " + name + "\n" + block + "\n." }

// putLine is a line that puts an event, as a writer of the tests' own writes it.
func putLine(e api.Event) string { return "put\n" + strings.Join(linesOf(e), "\n") + "\n." }

// tea is an event of one hour on 4 March 2024.
func tea(uid string, seq int) api.Event {
	return api.Event{Uid: uid, Seq: seq, Title: "tea", Start: local("20240304T090000"), Length: hour}
}

// weekly is an event of four weeks.
func weekly(uid string) api.Event {
	e := tea(uid, 0)
	e.Zone, e.Repeats, e.Rule = "X", true, ruleOf("FREQ=WEEKLY;COUNT=4")
	return e
}

// local is a time that is written as 20240708T123000.
func local(text string) api.Local {
	l, err := time.Parse("20060102T150405", text)
	if err != nil {
		panic(err)
	}
	return api.Local(l.Unix())
}

// locals are times that are written so.
func locals(texts ...string) []api.Local {
	var l []api.Local
	for _, x := range texts {
		l = append(l, local(x))
	}
	return l
}

// compact is a time as the library of Go tells it, of a year of any kind.
func compact(t api.Local) string {
	when := time.Unix(int64(t), 0).UTC()
	year := fmt.Sprintf("%04d", when.Year())
	if when.Year() < 0 || when.Year() > 9999 {
		year = fmt.Sprintf("%+06d", when.Year())
	}
	return year + fmt.Sprintf("%02d%02dT%02d%02d%02d", when.Month(), when.Day(), when.Hour(), when.Minute(), when.Second())
}

// ruleOf is a rule that is written so.
func ruleOf(text string) api.Rule {
	r, err := rule.Parse(text)
	if err != nil {
		panic(text + ": " + err.Error())
	}
	return r
}

// linesOf are the lines that tell an event.
func linesOf(e api.Event) []string {
	escaped := strings.NewReplacer(`\`, `\\`, ",", `\,`, ";", `\;`)
	times := func(l []api.Local) string {
		var texts []string
		for _, x := range l {
			texts = append(texts, compact(x))
		}
		return strings.Join(texts, ",")
	}
	lines := []string{"BEGIN:VCALENDAR", "BEGIN:VEVENT", "UID:" + e.Uid, fmt.Sprint("SEQUENCE:", e.Seq), "SUMMARY:" + escaped.Replace(e.Title)}
	if e.Zone == "" {
		lines = append(lines, "DTSTART:"+compact(e.Start))
	} else {
		lines = append(lines, "DTSTART;TZID="+e.Zone+":"+compact(e.Start))
	}
	lines = append(lines, "DURATION:"+long(e.Length))
	if e.Free {
		lines = append(lines, "TRANSP:TRANSPARENT")
	}
	if e.Repeats {
		r, _ := rule.Text(e.Rule)
		lines = append(lines, "RRULE:"+r)
	}
	if len(e.Out) > 0 {
		lines = append(lines, "EXDATE:"+times(e.Out))
	}
	if len(e.In) > 0 {
		lines = append(lines, "RDATE:"+times(e.In))
	}
	for _, o := range e.Others {
		lines = append(lines, "END:VEVENT", "BEGIN:VEVENT", "UID:"+e.Uid, "RECURRENCE-ID:"+compact(o.At))
		if o.Gone {
			lines = append(lines, "STATUS:CANCELLED")
		} else {
			lines = append(lines, "SUMMARY:"+escaped.Replace(o.Title), "DTSTART:"+compact(o.Start), "DURATION:"+long(o.Length))
		}
	}
	return append(lines, "END:VEVENT", "END:VCALENDAR")
}

// long writes so many seconds as hours, minutes and seconds.
func long(n int) string {
	if n == 0 {
		return "PT0S"
	}
	s := "PT"
	for i, each := range []int{3600, 60, 1} {
		if n/each > 0 {
			s += fmt.Sprint(n/each) + "HMS"[i:i+1]
		}
		n %= each
	}
	return s
}

// partOf is the part of some lines.
func partOf(t *testing.T, lines ...string) api.Part {
	t.Helper()
	p, err := text.Parse(strings.Join(lines, "\n"))
	if err != nil {
		t.Fatalf("%q: %v", lines, err)
	}
	return p
}

// eventPart is a calendar with an event of some lines.
func eventPart(t *testing.T, lines ...string) api.Part {
	t.Helper()
	all := append([]string{"BEGIN:VCALENDAR", "BEGIN:VEVENT"}, lines...)
	return partOf(t, append(all, "END:VEVENT", "END:VCALENDAR")...)
}
