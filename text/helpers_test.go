package text_test

import (
	"errors"
	"fmt"
	"math/rand"
	"reflect"
	"strings"
	"testing"

	"almanac/api"
)

// at tells where a test is; only what fails asks for it.
func at(format string, args ...any) func() string {
	return func() string { return fmt.Sprintf(format, args...) }
}

// wantError says whether a call told this error, without a place, and else its zero value.
func wantError[T any](t *testing.T, what func() string, got T, err error, want api.Errno) {
	t.Helper()
	var zero T
	if err != want || !reflect.DeepEqual(got, zero) {
		t.Errorf("%s: %.500q, %v; error %d is wanted, without a place, and the zero value", what(), fmt.Sprint(got), err, want)
	}
}

// wantPlace says whether a call told this error at this place, and else its zero value.
func wantPlace[T any](t *testing.T, what func() string, got T, err error, want api.Errno, place int) {
	t.Helper()
	var zero T
	var a *api.At
	if !errors.As(err, &a) || a.Err != want || a.Place != place || !reflect.DeepEqual(got, zero) {
		t.Errorf("%s: %.500q, %v; error %d at %d is wanted, and the zero value", what(), fmt.Sprint(got), err, want, place)
	}
}

// wantValue says whether a call answered this, and no error.
func wantValue[T any](t *testing.T, what func() string, got T, err error, want T) {
	t.Helper()
	if err != nil || !reflect.DeepEqual(got, want) {
		t.Errorf("%s: %.500q, %v; %.500q is wanted", what(), fmt.Sprint(got), err, fmt.Sprint(want))
	}
}

// drawnText draws a text of up to so many of some pieces.
func drawnText(r *rand.Rand, most int, pieces ...string) string {
	var text strings.Builder
	for range r.Intn(most + 1) {
		text.WriteString(pieces[r.Intn(len(pieces))])
	}
	return text.String()
}

// controls are the bytes that are controls.
func controls() []byte {
	var l []byte
	for b := range byte(' ') {
		if b != '\t' {
			l = append(l, b)
		}
	}
	return append(l, 0x7f)
}

// isControl says whether a byte is one of these.
func isControl(b int) bool { return strings.IndexByte(string(controls()), byte(b)) >= 0 }

// nested is a part with so many parts that stand within each other, itself among them.
func nested(deep int) api.Part { return within(deep-1, api.Part{Name: "P"}) }

// within is a part within so many others.
func within(many int, p api.Part) api.Part {
	for range many {
		p = api.Part{Name: "P", Parts: []api.Part{p}}
	}
	return p
}

// with is a part that has these lines.
func with(lines ...api.Line) api.Part { return api.Part{Name: "A", Lines: lines} }

// lineOf is a line with one param.
func lineOf(name string, values ...string) api.Line {
	return api.Line{Name: "X", Params: []api.Param{{Name: name, Values: values}}, Value: "v"}
}

// blanks are so many lines that may be.
func blanks(many int) []api.Line {
	var l []api.Line
	for range many {
		l = append(l, api.Line{Name: "X"})
	}
	return l
}

const nameBytes = "ABCDEFGHIJKLMNOPQRSTUVWXYZ0123456789-"

// drawnName draws a name of a line, a param or a part.
func drawnName(r *rand.Rand) string {
	for {
		var name strings.Builder
		for range 1 + r.Intn(1+r.Intn(40)) {
			name.WriteByte(nameBytes[r.Intn(len(nameBytes))])
		}
		if s := name.String(); s != "BEGIN" && s != "END" {
			return s
		}
	}
}

// drawnLine draws a line that may be.
func drawnLine(r *rand.Rand) api.Line {
	l := api.Line{Name: drawnName(r), Value: drawnText(r, 60, "a", " ", "\t", "é", "€", "\U0001f600", "\x80", "\xff", `"`, ";", ":", ",", "=", `\`)}
	for range r.Intn(4) * r.Intn(2) {
		p := api.Param{Name: drawnName(r)}
		for range 1 + r.Intn(3) {
			p.Values = append(p.Values, drawnText(r, 20, "b", " ", "\t", "é", "\x80", ";", ":", ",", "=", `\`))
		}
		l.Params = append(l.Params, p)
	}
	return l
}

// drawnPart draws a part that may be, of so many that stand within each other at most.
func drawnPart(r *rand.Rand, deep int) api.Part {
	p := api.Part{Name: drawnName(r)}
	for range r.Intn(4) {
		p.Lines = append(p.Lines, drawnLine(r))
	}
	if deep > 1 {
		for range r.Intn(3) {
			p.Parts = append(p.Parts, drawnPart(r, 1+r.Intn(deep-1)))
		}
	}
	return p
}
