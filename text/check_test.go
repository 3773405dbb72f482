package text_test

import (
	"math/rand"
	"reflect"
	"strings"
	"testing"

	"almanac/api"
	"almanac/text"
)

// Promise 9.3.

// wantBoth says whether Check tells this, and Print likewise.
func wantBoth(t *testing.T, what func() string, p api.Part, want api.Errno) {
	t.Helper()
	checked := text.Check(p)
	printed, err := text.Print(p)
	if want == api.OK {
		if checked != nil || err != nil || printed == "" {
			t.Errorf("%s: %v and %v; no error is wanted", what(), checked, err)
		}
		return
	}
	if checked != want || err != want || printed != "" {
		t.Errorf("%s: %v and %v with %.300q; error %d is wanted, without a place", what(), checked, err, printed, want)
	}
}

// TestNames: of parts, lines and params.
func TestNames(t *testing.T) {
	names := map[string]bool{"": false, strings.Repeat("A", 40): true, strings.Repeat("A", 41): false, "X-9-": true, "-": true, "0": true, "A B": false, "É": false, "AB\n": false, " A": false, "A_": false, "BEGIN-": true, "ENDE": true, "a": false, "aB": false, "begin": false}
	for b := range 256 {
		one := string([]byte{byte(b)})
		names[one] = strings.Contains(nameBytes, one)
		names["A"+one+"A"] = names[one]
	}
	for name, is := range names {
		want := api.ErrName
		if is {
			want = api.OK
		}
		wantBoth(t, at("9.3: a part of name %q", name), api.Part{Name: name}, want)
		wantBoth(t, at("9.3: a part in a part, of name %q", name), api.Part{Name: "A", Parts: []api.Part{{Name: name}}}, want)
		wantBoth(t, at("9.3: a line of name %q", name), with(api.Line{Name: name}), want)
		wantBoth(t, at("9.3: a param of name %q", name), with(lineOf(name, "v")), want)
	}
	for _, name := range []string{"BEGIN", "END"} {
		wantBoth(t, at("9.3: a line of name %q", name), with(api.Line{Name: name}), api.ErrName)
		wantBoth(t, at("9.3: a part of name %q", name), api.Part{Name: name}, api.OK)
		wantBoth(t, at("9.3: a param of name %q", name), with(lineOf(name, "v")), api.OK)
	}
}

// TestValues: which bytes may stand in a value of a param, and which in a line's.
func TestValues(t *testing.T) {
	wantBoth(t, at("9.3: a param without values"), with(lineOf("P")), api.ErrEmpty)
	wantBoth(t, at("9.3: a param with a value without bytes"), with(lineOf("P", "")), api.OK)
	for b := range 256 {
		ofParam, ofLine := api.OK, api.OK
		if isControl(b) {
			ofParam, ofLine = api.ErrForm, api.ErrForm
		}
		if b == '"' {
			ofParam = api.ErrForm
		}
		one := string([]byte{byte(b)})
		for _, value := range []string{one, "a" + one, one + "a", "a" + one + "a"} {
			wantBoth(t, at("9.3: a value %q of a param", value), with(lineOf("P", value)), ofParam)
			wantBoth(t, at("9.3: a second value %q of a param", value), with(lineOf("P", "", value)), ofParam)
			wantBoth(t, at("9.3: a line's value %q", value), with(api.Line{Name: "X", Value: value}), ofLine)
		}
	}
}

func TestDepth(t *testing.T) {
	for deep := 1; deep <= 8; deep++ {
		wantBoth(t, at("9.3: %d parts within each other", deep), nested(deep), api.OK)
	}
	for _, deep := range []int{9, 10, 20} {
		wantBoth(t, at("9.3: %d parts within each other", deep), nested(deep), api.ErrLimit)
	}
	p := nested(8)
	p.Parts = append(p.Parts, nested(7), nested(7))
	wantBoth(t, at("9.3: parts behind each other"), p, api.OK)
	p.Parts = append(p.Parts, nested(8))
	wantBoth(t, at("9.3: the 9th within the others, in the last part"), p, api.ErrLimit)
}

// TestEndless: a part that is of its own parts has a 9th within the others, or too many lines.
func TestEndless(t *testing.T) {
	parts := []api.Part{{Name: "P"}}
	parts[0].Parts = parts
	wantBoth(t, at("9.3: a part within itself"), parts[0], api.ErrLimit)
	many := make([]api.Part, 100)
	for i := range many {
		many[i] = api.Part{Name: "P", Parts: many}
	}
	wantBoth(t, at("9.3: many parts within themselves"), many[0], api.ErrLimit)
	wide := api.Part{Name: "P", Parts: make([]api.Part, 100_000)}
	for i := range wide.Parts {
		wide.Parts[i].Name = "P"
	}
	wantBoth(t, at("9.3: many parts"), wide, api.ErrLimit)
}

// TestManyLines: each part has two lines for itself.
func TestManyLines(t *testing.T) {
	twenty := api.Part{Name: "A", Lines: blanks(12), Parts: slicesOf(with(blanks(1)...), 2)}
	for _, c := range []struct {
		what string
		p    api.Part
		want api.Errno
	}{
		{"2000 lines", with(blanks(1998)...), api.OK},
		{"2001 lines", with(blanks(1999)...), api.ErrLimit},
		{"2002 lines", with(blanks(2000)...), api.ErrLimit},
		{"2000 lines, in two parts", api.Part{Name: "A", Lines: blanks(1000), Parts: []api.Part{with(blanks(996)...)}}, api.OK},
		{"2001 lines, in two parts", api.Part{Name: "A", Lines: blanks(1000), Parts: []api.Part{with(blanks(997)...)}}, api.ErrLimit},
		{"2000 lines of parts alone", api.Part{Name: "A", Parts: slicesOf(with(), 999)}, api.OK},
		{"2002 lines of parts alone", api.Part{Name: "A", Parts: slicesOf(with(), 1000)}, api.ErrLimit},
		{"2000 lines, in parts within each other", api.Part{Name: "A", Lines: blanks(18), Parts: slicesOf(twenty, 99)}, api.OK},
		{"2001 lines, in parts within each other", api.Part{Name: "A", Lines: blanks(19), Parts: slicesOf(twenty, 99)}, api.ErrLimit},
	} {
		wantBoth(t, at("9.3: %s", c.what), c.p, c.want)
	}
}

// slicesOf are so many parts that are alike.
func slicesOf(p api.Part, many int) []api.Part {
	var l []api.Part
	for range many {
		l = append(l, p)
	}
	return l
}

// TestOrder: of two faults the one that is come to first is told.
func TestOrder(t *testing.T) {
	badName, badValue := api.Line{Name: "x"}, api.Line{Name: "X", Value: "\n"}
	params := func(l ...api.Param) api.Line { return api.Line{Name: "X", Params: l, Value: "\n"} }
	form, empty, name := api.Param{Name: "P", Values: []string{"a", `"`}}, api.Param{Name: "P"}, api.Param{Name: "p", Values: []string{"\n"}}
	tooMany := with(blanks(1999)...)
	for _, c := range []struct {
		what string
		p    api.Part
		want api.Errno
	}{
		{"too many lines, ahead of a name", api.Part{Name: "a", Lines: blanks(1999)}, api.ErrLimit},
		{"too many lines, ahead of a line", with(make([]api.Line, 1999)...), api.ErrLimit},
		{"a part's name, ahead of its lines", api.Part{Name: "a", Lines: []api.Line{badValue}}, api.ErrName},
		{"a line, ahead of the parts", api.Part{Name: "A", Lines: []api.Line{badValue}, Parts: []api.Part{{Name: "a"}}}, api.ErrForm},
		{"a line, ahead of too many lines in a part", api.Part{Name: "A", Lines: []api.Line{badValue}, Parts: []api.Part{tooMany}}, api.ErrForm},
		{"a part's name, ahead of a part too deep", api.Part{Name: "a", Parts: []api.Part{nested(8)}}, api.ErrName},
		{"a part too deep, ahead of the next part", api.Part{Name: "A", Parts: []api.Part{nested(8), {Name: "a"}}}, api.ErrLimit},
		{"a part's line, ahead of the next part too deep", api.Part{Name: "A", Parts: []api.Part{with(badValue), nested(8)}}, api.ErrForm},
		{"a part's part, ahead of the next part", api.Part{Name: "A", Parts: []api.Part{{Name: "A", Parts: []api.Part{with(badValue)}}, {Name: "a"}}}, api.ErrForm},
		{"a part, ahead of too many lines in the next one", api.Part{Name: "A", Parts: []api.Part{{Name: "a"}, tooMany}}, api.ErrName},
		{"a part too deep, ahead of its name", within(8, api.Part{Name: "a"}), api.ErrLimit},
		{"a line, ahead of the next line", with(badValue, badName), api.ErrForm},
		{"a line, ahead of the next line, turned round", with(badName, badValue), api.ErrName},
		{"a line's name, ahead of its params", with(api.Line{Name: "x", Params: []api.Param{empty}}), api.ErrName},
		{"END, ahead of its params", with(api.Line{Name: "END", Params: []api.Param{empty}}), api.ErrName},
		{"a param, ahead of the next one", with(params(form, empty, name)), api.ErrForm},
		{"a param without values, ahead of the next one", with(params(empty, form, name)), api.ErrEmpty},
		{"a param's name, ahead of its values", with(params(name, empty, form)), api.ErrName},
		{"a param's name, ahead of there being no values", with(params(api.Param{})), api.ErrName},
		{"a param, ahead of the value", with(params(empty)), api.ErrEmpty},
		{"a value, behind params that may be", with(params(api.Param{Name: "P", Values: []string{""}})), api.ErrForm},
	} {
		wantBoth(t, at("9.3: %s", c.what), c.p, c.want)
	}
}

// TestUnchanged: what is handed in stays as it is.
func TestUnchanged(t *testing.T) {
	first, second := rand.New(rand.NewSource(97)), rand.New(rand.NewSource(97))
	for range 200 {
		p, same := drawnPart(first, 8), drawnPart(second, 8)
		wantBoth(t, at("9.3: a drawn part %q", p), p, api.OK)
		if !reflect.DeepEqual(p, same) {
			t.Fatalf("P4: %q became %q", same, p)
		}
	}
}
