package book_test

import (
	"errors"
	"fmt"
	"reflect"
	"slices"
	"strings"
	"testing"
	"time"

	"almanac/api"
	"almanac/book"
	"almanac/rule"
)

const (
	hour      = 3600
	firstTime = api.Local(-api.MaxDay * api.Daily)
	lastTime  = api.Local(api.MaxTime)
	central   = "rule EU 1981 max 3 last7 01:00u +01:00\nrule EU 1996 max 10 last7 01:00u +00:00\nera +01:00 EU"
)

// at tells where a test is; only what fails asks for it.
func at(format string, args ...any) func() string {
	return func() string { return fmt.Sprintf(format, args...) }
}

// wantSaid says whether a call told this error, without a place.
func wantSaid(t *testing.T, what func() string, err error, want api.Errno) {
	t.Helper()
	if want == api.OK && err != nil || want != api.OK && err != want {
		t.Errorf("%s: %v; error %d is wanted, without a place", what(), err, want)
	}
}

// wantError says whether a call told this error, without a place, and else its zero value.
func wantError[T any](t *testing.T, what func() string, got T, err error, want api.Errno) {
	t.Helper()
	var zero T
	if err != want || !reflect.DeepEqual(got, zero) {
		t.Errorf("%s: %+v, %v; error %d is wanted, without a place, and the zero value", what(), got, err, want)
	}
}

// wantPlace says whether a call told this error at this place.
func wantPlace(t *testing.T, what func() string, err error, want api.Errno, place int) {
	t.Helper()
	var a *api.At
	if !errors.As(err, &a) || a.Err != want || a.Place != place {
		t.Errorf("%s: %v; error %d at %d is wanted", what(), err, want, place)
	}
}

// wantValue says whether a call answered this, and no error.
func wantValue[T any](t *testing.T, what func() string, got T, err error, want T) {
	t.Helper()
	if err != nil || !reflect.DeepEqual(got, want) {
		t.Errorf("%s: %+v, %v; %+v is wanted", what(), got, err, want)
	}
}

// wantEvent says whether a call answered this event, and no error.
func wantEvent(t *testing.T, what func() string, got api.Event, err error, want api.Event) {
	t.Helper()
	wantValue(t, what, bare(got), err, bare(want))
}

// bare is an event whose lists that are empty are nil.
func bare(e api.Event) api.Event {
	v := reflect.ValueOf(&e).Elem()
	for _, fields := range []reflect.Value{v, v.FieldByName("Rule")} {
		for i := range fields.NumField() {
			if f := fields.Field(i); f.Kind() == reflect.Slice && f.Len() == 0 {
				f.SetZero()
			}
		}
	}
	return e
}

// wantOccasions says whether a call answered these, in this order, and no error.
func wantOccasions(t *testing.T, what func() string, got []api.Occasion, err error, want ...api.Occasion) {
	t.Helper()
	if err != nil || !slices.Equal(got, want) {
		t.Errorf("%s: %v, %v; %v is wanted", what(), shownAll(got), err, shownAll(want))
	}
}

// shownAll tells some occasions, and not too many of them.
func shownAll(l []api.Occasion) string {
	var b strings.Builder
	for i, o := range l {
		if i == 20 {
			fmt.Fprintf(&b, " .. (%d)", len(l))
			break
		}
		fmt.Fprintf(&b, " {%s %s: %s to %s %q %v}", o.Uid, shown(o.At), shown(api.Local(o.From)), shown(api.Local(o.To)), o.Title, o.Free)
	}
	return "[" + b.String() + " ]"
}

// local is a time that is written as 2024-07-08T12:30.
func local(text string) api.Local {
	l, err := time.Parse("2006-01-02T15:04", text)
	if err != nil {
		panic(err)
	}
	return api.Local(l.Unix())
}

// moment is what a clock of offset 0 shows then.
func moment(text string) api.Instant { return api.Instant(local(text)) }

// locals are times that are written so.
func locals(texts ...string) []api.Local {
	var l []api.Local
	for _, x := range texts {
		l = append(l, local(x))
	}
	return l
}

// shown is a time as the library of Go tells it.
func shown(t api.Local) string { return time.Unix(int64(t), 0).UTC().Format("2006-01-02T15:04:05") }

// ruleOf is a rule that is written so.
func ruleOf(text string) api.Rule {
	r, err := rule.Parse(text)
	if err != nil {
		panic(text + ": " + err.Error())
	}
	return r
}

// bookOf has zones X (that of central Europe) and W and E (a day less a minute behind and ahead, and with as much saved), and these events.
func bookOf(t *testing.T, events ...api.Event) *book.Book {
	t.Helper()
	b := book.New()
	for name, text := range map[string]string{
		"X": central,
		"W": "rule R 1 max 1 1 00:00s -23:59\nera -23:59 R",
		"E": "rule R 1 max 1 1 00:00s +23:59\nera +23:59 R",
	} {
		wantSaid(t, at("10.1: SetZone(%s)", name), b.SetZone(name, text), api.OK)
	}
	for _, e := range events {
		wantSaid(t, at("10.2: Put(%+v)", e), b.Put(e), api.OK)
	}
	return b
}

// daily is an event of each day, from 4 March 2024 on.
func daily(uid string) api.Event {
	return api.Event{Uid: uid, Title: "tea", Start: local("2024-03-04T09:00"), Length: hour, Repeats: true, Rule: ruleOf("FREQ=DAILY")}
}

// full has so many of everything that it can have.
func full() api.Event {
	r := ruleOf("FREQ=YEARLY;BYMONTH=3,4,5;BYYEARDAY=64,65,66,70,71,72,73,74,80,100;BYMONTHDAY=4,5,6,10,11,12,13,14,20,9;BYDAY=MO,TU,WE,TH,FR,SA,SU;BYHOUR=9,10;BYMINUTE=0,30;BYSECOND=0,15;BYSETPOS=1,2,3,4,5,6,7,8,9,10,11,12,13,14,15,16,17,18,-1")
	return api.Event{
		Uid: "full", Seq: 7, Title: "all", Zone: "X", Start: local("2024-03-04T09:00"), Length: 600, Free: true, Repeats: true, Rule: r,
		Out:    locals("2024-03-05T09:00", "2024-03-06T10:00"),
		In:     locals("2024-03-01T08:00", "2024-03-07T08:00"),
		Others: []api.Other{{At: local("2024-03-10T09:00"), Gone: true}, {At: local("2024-03-11T09:00"), Start: local("2024-03-12T08:00"), Length: 60, Title: "late"}},
	}
}
