package desk

import (
	"slices"

	"almanac/api"
	"almanac/book"
	"almanac/rule"
	"almanac/text"
)

// Import reads an event of a part.
func Import(p api.Part) (api.Event, error) {
	parts, err := sortParts(p)
	if err != nil {
		return api.Event{}, err
	}
	e, err := readEvent(parts[0])
	if err != nil {
		return api.Event{}, err
	}
	for _, f := range parts[1:] {
		o, err := readOther(f, e.Uid)
		if err != nil {
			return api.Event{}, err
		}
		e.Others = append(e.Others, o)
	}
	if err := book.Check(e); err != nil {
		return api.Event{}, err
	}
	return e, nil
}

// fields are a part's lines, by their names.
type fields map[string]api.Line

// sortParts tells the lines of all parts by their names: first those of the event.
func sortParts(p api.Part) ([]fields, error) {
	if p.Name != calendarPart || len(p.Lines) > 0 || len(p.Parts) == 0 {
		return nil, api.ErrForm
	}
	var all []fields
	for i, one := range p.Parts {
		var f fields
		var err error
		if i == 0 {
			f, err = sortLines(one, uidLine, sequenceLine, summaryLine, startLine, durationLine, transpLine, ruleLine, outLine, inLine)
		} else {
			f, err = sortLines(one, uidLine, atLine, statusLine, summaryLine, startLine, durationLine)
		}
		if err != nil {
			return nil, err
		}
		all = append(all, f)
	}
	return all, nil
}

// sortLines tells a part's lines by their names, of which just some may be.
func sortLines(p api.Part, may ...string) (fields, error) {
	if p.Name != eventPart || len(p.Parts) > 0 {
		return nil, api.ErrForm
	}
	f := fields{}
	for _, l := range p.Lines {
		if _, isTwice := f[l.Name]; isTwice {
			return nil, api.ErrExists
		}
		if !slices.Contains(may, l.Name) || len(l.Params) > 0 && l.Name != startLine {
			return nil, api.ErrName
		}
		f[l.Name] = l
	}
	return f, nil
}

// readEvent reads an event, without what is other at some of its times.
func readEvent(f fields) (api.Event, error) {
	e := api.Event{Uid: f[uidLine].Value}
	for _, read := range []func(*api.Event) error{f.sequence, f.what, f.zone, f.free, f.rule, f.times} {
		if err := read(&e); err != nil {
			return api.Event{}, err
		}
	}
	return e, nil
}

// sequence reads an event's number.
func (f fields) sequence(e *api.Event) (err error) {
	if l, ok := f[sequenceLine]; ok {
		e.Seq, err = readNumber(l.Value)
	}
	return err
}

// what reads what takes place, when, and how long.
func (f fields) what(e *api.Event) error {
	titles, err := text.Items(f[summaryLine].Value)
	if err != nil {
		return bare(err)
	}
	if len(titles) != 1 {
		return api.ErrForm
	}
	e.Title = titles[0]
	start, ok := f[startLine]
	if !ok {
		return api.ErrMissing
	}
	if e.Start, err = readTime(start.Value); err != nil {
		return err
	}
	if l, ok := f[durationLine]; ok {
		e.Length, err = readSeconds(l.Value)
	}
	return err
}

// zone reads the name of an event's zone.
func (f fields) zone(e *api.Event) error {
	params := f[startLine].Params
	if len(params) == 0 {
		return nil
	}
	if len(params) > 1 || params[0].Name != zoneParam || len(params[0].Values) != 1 {
		return api.ErrName
	}
	e.Zone = params[0].Values[0]
	return nil
}

// free reads whether an event leaves people free.
func (f fields) free(e *api.Event) error {
	l, ok := f[transpLine]
	if ok && l.Value != transparent && l.Value != opaque {
		return api.ErrForm
	}
	e.Free = l.Value == transparent
	return nil
}

// rule reads when an event comes again.
func (f fields) rule(e *api.Event) (err error) {
	l, ok := f[ruleLine]
	if !ok {
		return nil
	}
	e.Repeats = true
	e.Rule, err = rule.Parse(l.Value)
	return bare(err)
}

// times reads the times that an event leaves out, and those that it has besides.
func (f fields) times(e *api.Event) (err error) {
	if l, ok := f[outLine]; ok {
		if e.Out, err = readTimes(l.Value); err != nil {
			return err
		}
	}
	if l, ok := f[inLine]; ok {
		e.In, err = readTimes(l.Value)
	}
	return err
}

// readOther reads what is other at one of an event's times.
func readOther(f fields, uid string) (api.Other, error) {
	if f[uidLine].Value != uid || len(f[startLine].Params) > 0 {
		return api.Other{}, api.ErrName
	}
	at, err := readTime(f[atLine].Value)
	if err != nil {
		return api.Other{}, err
	}
	if status, ok := f[statusLine]; ok {
		if _, hasUid := f[uidLine]; status.Value != cancelled || len(f) != 3 || !hasUid {
			return api.Other{}, api.ErrForm
		}
		return api.Other{At: at, Gone: true}, nil
	}
	var e api.Event
	if err := f.what(&e); err != nil {
		return api.Other{}, err
	}
	return api.Other{At: at, Start: e.Start, Length: e.Length, Title: e.Title}, nil
}
