package desk

import (
	"strconv"

	"almanac/api"
	"almanac/book"
	"almanac/clock"
	"almanac/rule"
	"almanac/text"
)

// The names of parts and lines, and what some lines say.
const (
	calendarPart = "VCALENDAR"
	eventPart    = "VEVENT"

	uidLine      = "UID"
	sequenceLine = "SEQUENCE"
	summaryLine  = "SUMMARY"
	startLine    = "DTSTART"
	durationLine = "DURATION"
	transpLine   = "TRANSP"
	ruleLine     = "RRULE"
	outLine      = "EXDATE"
	inLine       = "RDATE"
	atLine       = "RECURRENCE-ID"
	statusLine   = "STATUS"

	zoneParam   = "TZID"
	transparent = "TRANSPARENT"
	opaque      = "OPAQUE"
	cancelled   = "CANCELLED"
)

// Export writes an event as a part.
func Export(e api.Event) (api.Part, error) {
	if err := book.Check(e); err != nil {
		return api.Part{}, err
	}
	first, err := eventOf(e)
	if err != nil {
		return api.Part{}, err
	}
	all := api.Part{Name: calendarPart, Parts: []api.Part{first}}
	for _, o := range e.Others {
		other, err := otherOf(e.Uid, o)
		if err != nil {
			return api.Part{}, err
		}
		all.Parts = append(all.Parts, other)
	}
	return all, nil
}

// writer adds lines to a part, up to the first one that can't be written.
type writer struct {
	part api.Part
	err  error
}

// line adds a line.
func (w *writer) line(name, value string) {
	w.part.Lines = append(w.part.Lines, api.Line{Name: name, Value: value})
}

// written adds a line whose value had to be written, if it could be.
func (w *writer) written(name, value string, err error) {
	if w.err == nil {
		w.err = err
	}
	w.line(name, value)
}

// what adds the lines that tell what takes place, when, and how long.
func (w *writer) what(title, zone string, start api.Local, length int) {
	w.line(summaryLine, text.Escape(title))
	when, err := timeText(start)
	w.written(startLine, when, err)
	if zone != "" {
		w.part.Lines[len(w.part.Lines)-1].Params = []api.Param{{Name: zoneParam, Values: []string{zone}}}
	}
	long, err := clock.PeriodText(api.Period{Seconds: length})
	w.written(durationLine, long, err)
}

// times adds a line with times, if there are some.
func (w *writer) times(name string, times []api.Local) {
	if len(times) > 0 {
		value, err := timesText(times)
		w.written(name, value, err)
	}
}

// done is the part, if all of it could be written.
func (w *writer) done() (api.Part, error) {
	if w.err != nil {
		return api.Part{}, w.err
	}
	return w.part, nil
}

// eventOf writes an event, without what is other at some of its times.
func eventOf(e api.Event) (api.Part, error) {
	w := &writer{part: api.Part{Name: eventPart}}
	w.line(uidLine, e.Uid)
	w.line(sequenceLine, strconv.Itoa(e.Seq))
	w.what(e.Title, e.Zone, e.Start, e.Length)
	if e.Free {
		w.line(transpLine, transparent)
	}
	if e.Repeats {
		value, err := rule.Text(e.Rule)
		w.written(ruleLine, value, err)
	}
	w.times(outLine, e.Out)
	w.times(inLine, e.In)
	return w.done()
}

// otherOf writes what is other at one of an event's times.
func otherOf(uid string, o api.Other) (api.Part, error) {
	w := &writer{part: api.Part{Name: eventPart}}
	w.line(uidLine, uid)
	at, err := timeText(o.At)
	w.written(atLine, at, err)
	if o.Gone {
		w.line(statusLine, cancelled)
	} else {
		w.what(o.Title, "", o.Start, o.Length)
	}
	return w.done()
}
