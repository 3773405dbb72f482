package text_test

import (
	"strings"
	"testing"

	"almanac/api"
	"almanac/text"
)

// Promise 9.4: Parse.

func TestParse(t *testing.T) {
	x1 := api.Line{Name: "X", Value: "1"}
	for s, want := range map[string]api.Part{
		"BEGIN:A\nEND:A":                    {Name: "A"},
		"BEGIN:A\r\nEND:A\r\n":              {Name: "A"},
		"begin:a\nend:A\n":                  {Name: "A"},
		"Begin:a-1z\nEnd:A-1Z\n":            {Name: "A-1Z"},
		"BEGIN:END\nEND:END":                {Name: "END"},
		"BEGIN:A\nX:1\nEND:A":               with(x1),
		"BEGIN:A\nx:1\nX:1\nEND:A":          with(x1, x1),
		"BEGIN:A\nX:\nEND:A":                with(api.Line{Name: "X"}),
		"BEGIN:A\nX::;,\"\\\t é\xff\nEND:A": with(api.Line{Name: "X", Value: ":;,\"\\\t é\xff"}),
		"BEGIN:A\nX: 1 \nEND:A":             with(api.Line{Name: "X", Value: " 1 "}),
		"BEGIN:A\nEND-:1\nBEGINS:1\nEND:A":  with(api.Line{Name: "END-", Value: "1"}, api.Line{Name: "BEGINS", Value: "1"}),

		// Params.
		"BEGIN:A\nX;P=a:v\nEND:A":                   with(lineOf("P", "a")),
		"BEGIN:A\nx;p=a:v\nEND:A":                   with(lineOf("P", "a")),
		"BEGIN:A\nX;begin=a:v\nEND:A":               with(lineOf("BEGIN", "a")),
		"BEGIN:A\nX;P=:v\nEND:A":                    with(lineOf("P", "")),
		"BEGIN:A\nX;P=\"\":v\nEND:A":                with(lineOf("P", "")),
		"BEGIN:A\nX;P=,:v\nEND:A":                   with(lineOf("P", "", "")),
		"BEGIN:A\nX;P=,\"\",:v\nEND:A":              with(lineOf("P", "", "", "")),
		"BEGIN:A\nX;P=\"a\",b,\"c\":v\nEND:A":       with(lineOf("P", "a", "b", "c")),
		"BEGIN:A\nX;P=\"a,b;c:d=e\",\t \\:v\nEND:A": with(lineOf("P", "a,b;c:d=e", "\t \\")),
		"BEGIN:A\nX;P=a=b=:v\nEND:A":                with(lineOf("P", "a=b=")),
		"BEGIN:A\nX;P==:v\nEND:A":                   with(lineOf("P", "=")),
		"BEGIN:A\nX;P=é\xff:v\nEND:A":               with(lineOf("P", "é\xff")),
		"BEGIN:A\nX;P=a;Q=b;P=\"c\",d:v\nEND:A": with(api.Line{Name: "X", Params: []api.Param{
			{Name: "P", Values: []string{"a"}}, {Name: "Q", Values: []string{"b"}}, {Name: "P", Values: []string{"c", "d"}},
		}, Value: "v"}),

		// Lines that are folded.
		"BEG\n IN:\r\n\tA\nX:a\n  b\n \n\t\tc\r\nEN\n D:A": with(api.Line{Name: "X", Value: "a b\tc"}),
		"BEGIN:A\nX;\n P=\"\n a:\n b\"\n :v\nEND:A\n \n":   with(lineOf("P", "a:b")),
		"BEGIN:A\nX:1\n \r\n END:A\nEND:A":                 with(api.Line{Name: "X", Value: "1END:A"}),

		// Parts.
		"BEGIN:A\nX:1\nBEGIN:B\nX:1\nEND:B\nBEGIN:A\nEND:A\nEND:A": {Name: "A", Lines: []api.Line{x1}, Parts: []api.Part{{Name: "B", Lines: []api.Line{x1}}, {Name: "A"}}},
		"BEGIN:A\nBEGIN:B\nBEGIN:C\nEND:C\nEND:B\nBEGIN:B\nX:1\nEND:B\nEND:A\n": {Name: "A", Parts: []api.Part{
			{Name: "B", Parts: []api.Part{{Name: "C"}}}, {Name: "B", Lines: []api.Line{x1}},
		}},
	} {
		got, err := text.Parse(s)
		wantValue(t, at("9.4: Parse(%q)", s), got, err, want)
	}
}

// TestLineFaults: what is wrong in a line, wherever the line stands.
func TestLineFaults(t *testing.T) {
	for want, lines := range map[api.Errno][]string{
		api.ErrForm: {
			"", "no", "X", "=", "X=1", "a b", "\x00", "é",
			"X;", "X;P", "X;P:1", "X;:1", "X;P,Q:1", "X;P;Q=1:2", "X;P:Q=1", "X;:=", "X;p p:=1", "X;;P=1:2",
			"X;P=", "X;P=1", "X;P=1,", "X;P=1;", "X;P=1;Q", "X;P=1;Q:2", "X;P=1,2",
			"X;P=\"", "X;P=\"a", "X;P=\"a:1", "X;P=\"a,b;c:1", "X;P=a,\"b:1", "X;P=a;Q=\"b:1",
			"X;P=a\"b:1", "X;P=a\":1", "X;P=a\"b\":1", "X;P= \"a\":1", "X;P=1,a\":1",
			"X;P=\"a\"", "X;P=\"a\"b:1", "X;P=\"a\" :1", "X;P=\"a\"\":1", "X;P=\"a\"\"b\":1", "X;P=\"a\"=:1", "X;P=\"\"b:1", "X;P=\"a\"b", "X;P=\"a\",", "X;P=\"a\";Q",
			"X:\x00", "X:a\x1f", "X:\x7fa", "X:a\rb", "X;P=a\x01:1", "X;P=\x7f:1", "X;P=\"\x02\":1", "X;P=a\rb:1", "X;P=a:\x03",
			// From the left on: what is of no form, ahead of a name that is none.
			"X;P;Q_=1:2", "X;P=\"a\"b;Q_=1:2", "X;P=a\x01;Q_=1:2", "X;P=\"a;Q_=1:2", "X;P:\x00;Q_=1",
		},
		api.ErrName: {
			":", ";", ":1", ";P=1:2", "X_Y:1", "X Y:1", " X:1", "X :1", "é:1", "\x00:1", "\"X\":1", "X=1:2", "X,Y:1",
			strings.Repeat("X", 41) + ":1", "ſ:1", "ı:1", "\xff:1", "X_;", "X_;P", "X_;P:\x00", "X_:\x00",
			"X;=1:2", "X;=", "X;=\"", "X;P =1:2", "X; P=1:2", "X;P_=1:2", "X;\"P\"=1:2", "X;P,Q=1:2", "X;é=1:2", "X;ſ=1:2", "X;" + strings.Repeat("P", 41) + "=1:2",
			// From the left on: a name that is none, ahead of what is of no form.
			"X;P_=\"a:1", "X;P_=\x00:1", "X;P=1;Q_=\"", "X;P_=1;Q:2", "X;P=\"a\",b;Q_=\x00", "X;P_=1",
		},
	} {
		for _, line := range lines {
			for _, c := range []struct {
				ahead, behind string
				place         int
			}{
				{"", "", 0},
				{"", "\nno\n_:1", 0},
				{"BEGIN:A\n", "\nEND:A\n", 1},
				{"BEGIN:A\r\nX:1\r\n 2\r\nX:3\r\n", "\r\nEND:A\r\n", 3},
				{"BEGIN:A\nEND:A\n", "\n", 2},
			} {
				s := c.ahead + line + c.behind
				if strings.HasPrefix(line, " ") && c.ahead != "" {
					continue // it would go on with the line ahead
				}
				if line == "" && s == "" {
					continue // there is no line
				}
				got, err := text.Parse(s)
				wantPlace(t, at("9.4: Parse(%q)", s), got, err, want, c.place)
			}
		}
	}
}

// TestBytes: which bytes may stand in names and values.
func TestBytes(t *testing.T) {
	for b := range 256 {
		one := string([]byte{byte(b)})
		if b == '\n' || b == '\r' {
			continue // they part lines
		}
		isName := strings.Contains(nameBytes, strings.ToUpper(one)) && b < 0x80
		s := "BEGIN:A\nX" + one + "X;P=1:2\nEND:A"
		got, err := text.Parse(s)
		switch {
		case isName:
			wantValue(t, at("9.4: Parse(%q): the line's name", s), got.Lines[0].Name, err, "X"+strings.ToUpper(one)+"X")
		case b == ':':
			wantValue(t, at("9.4: Parse(%q)", s), got, err, with(api.Line{Name: "X", Value: "X;P=1:2"}))
		case b == ';':
			wantPlace(t, at("9.4: Parse(%q)", s), got, err, api.ErrForm, 1)
		default:
			wantPlace(t, at("9.4: Parse(%q)", s), got, err, api.ErrName, 1)
		}
		wantByte(t, one, isControl(b) || b == '"', "X;P=a", "b:v", "P", "a"+one+"b")
		wantByte(t, one, isControl(b) || b == '"', "X;P=\"a", "b\":v", "P", "a"+one+"b")
	}
}

// wantByte says whether a byte may stand in a param's value.
func wantByte(t *testing.T, one string, bad bool, ahead, behind, name, value string) {
	t.Helper()
	s := "BEGIN:A\n" + ahead + one + behind + "\nEND:A"
	got, err := text.Parse(s)
	quoted := strings.Contains(ahead, `"`)
	switch {
	case bad, !quoted && one == ";":
		wantPlace(t, at("9.4: Parse(%q)", s), got, err, api.ErrForm, 1)
	case !quoted && one == ",":
		wantValue(t, at("9.4: Parse(%q)", s), got, err, with(lineOf(name, "a", "b")))
	case !quoted && one == ":":
		wantValue(t, at("9.4: Parse(%q)", s), got, err, with(api.Line{Name: "X", Params: []api.Param{{Name: name, Values: []string{"a"}}}, Value: "b:v"}))
	default:
		wantValue(t, at("9.4: Parse(%q)", s), got, err, with(lineOf(name, value)))
	}
}

// TestPartFaults: lines that may be, but not so behind each other.
func TestPartFaults(t *testing.T) {
	begins, ends := strings.Repeat("BEGIN:A\n", 9), strings.Repeat("END:A\n", 9)
	for _, c := range []struct {
		text  string
		want  api.Errno
		place int
	}{
		{"", api.ErrEmpty, 0},
		{"X:1", api.ErrForm, 0},
		{"X:1\nBEGIN:A\nEND:A", api.ErrForm, 0},
		{"END:A", api.ErrForm, 0},
		{"BEGINS:A\nEND:A", api.ErrForm, 0},
		{"BEGIN;P=1:A\nEND:A", api.ErrForm, 0},
		{"BEGIN;P=1:a b\nEND:A", api.ErrForm, 0},
		{"BEGIN:\nEND:", api.ErrName, 0},
		{"BEGIN:a b\nEND:a b", api.ErrName, 0},
		{"BEGIN: A\nEND: A", api.ErrName, 0},
		{"BEGIN:A \nEND:A", api.ErrName, 0},
		{"BEGIN:A:\nEND:A:", api.ErrName, 0},
		{"BEGIN:ſ\nEND:S", api.ErrName, 0},
		{"BEGIN:" + strings.Repeat("A", 41) + "\nEND:A", api.ErrName, 0},

		{"BEGIN:A", api.ErrEmpty, 1},
		{"BEGIN:A\n", api.ErrEmpty, 1},
		{"BEGIN:A\nX:1\n 2\n", api.ErrEmpty, 2},
		{"BEGIN:A\nBEGIN:B\nEND:B\n", api.ErrEmpty, 3},
		{"BEGIN:A\nBEGIN:B\nX:1", api.ErrEmpty, 3},
		{"BEGIN:A\nX:1\nEND:B", api.ErrForm, 2},
		{"BEGIN:A\nEND:", api.ErrForm, 1},
		{"BEGIN:A\nEND:A ", api.ErrForm, 1},
		{"BEGIN:A\nEND: A", api.ErrForm, 1},
		{"BEGIN:A\nEND:a b", api.ErrForm, 1},
		{"BEGIN:S\nEND:ſ", api.ErrForm, 1},
		{"BEGIN:A\nEND;P=1:A", api.ErrForm, 1},
		{"BEGIN:A\nBEGIN:B\nEND:A\nEND:B", api.ErrForm, 2},
		{"BEGIN:A\nBEGIN;P=1:B\nEND:B\nEND:A", api.ErrForm, 1},
		{"BEGIN:A\nBEGIN:b_\nEND:B\nEND:A", api.ErrName, 1},
		{"BEGIN:A\nBEGIN:B\nEND:B\nY:2\nEND:A", api.ErrOrder, 3},
		{"BEGIN:A\nX:1\nBEGIN:B\nEND:B\nBEGIN:B\nEND:B\nY:2\nEND:A", api.ErrOrder, 6},
		{"BEGIN:A\nBEGIN:B\nBEGIN:C\nEND:C\nY:2\nEND:B\nX:1\nEND:A", api.ErrOrder, 4},
		{"BEGIN:A\nBEGIN:B\nEND:B\nY;P=1:2", api.ErrOrder, 3},
		{"BEGIN:A\nBEGIN:B\nEND:B\nEND:B", api.ErrForm, 3},

		{"BEGIN:A\nEND:A\nX:1", api.ErrForm, 2},
		{"BEGIN:A\nEND:A\nEND:A", api.ErrForm, 2},
		{"BEGIN:A\nEND:A\nBEGIN:A\nEND:A", api.ErrForm, 2},
		{"BEGIN:A\nBEGIN:B\nEND:B\nEND:A\nX:1\nY:2", api.ErrForm, 4},

		{begins + ends, api.ErrLimit, 8},
		{begins, api.ErrLimit, 8},
		{begins + begins, api.ErrLimit, 8},
		{begins[len("BEGIN:A\n"):] + "BEGIN:a b\n" + ends, api.ErrName, 8},
		{begins[len("BEGIN:A\n"):] + "BEGIN;P=1:A\n" + ends, api.ErrForm, 8},
		{begins[len("BEGIN:A\n"):] + "END:A\n" + "BEGIN:A\nBEGIN:A\n" + ends, api.ErrLimit, 10},
	} {
		got, err := text.Parse(c.text)
		wantPlace(t, at("9.4: Parse(%q)", c.text), got, err, c.want, c.place)
	}
}

// TestFirstFault: of several lines that have a fault the first one is told, whatever the fault is; within a line what it is itself comes ahead of how it stands.
func TestFirstFault(t *testing.T) {
	for _, c := range []struct {
		text  string
		want  api.Errno
		place int
	}{
		{"BEGIN:A\n_:1\nno\nEND:A", api.ErrName, 1},
		{"BEGIN:A\nno\n_:1\nEND:A", api.ErrForm, 1},
		{"BEGIN:A\nno\nEND:B", api.ErrForm, 1},
		{"X:1\nEND:B\n", api.ErrForm, 0},
		{"X:1\nbad", api.ErrForm, 0},
		{"X:1\n_:1", api.ErrForm, 0},
		{"END:A\n\n_:1", api.ErrForm, 0},
		{"BEGIN:a b\nno", api.ErrName, 0},
		{"BEGIN;P=1:A\n_:1", api.ErrForm, 0},
		{"BEGIN:A\nEND:B\nX:1", api.ErrForm, 1},
		{"BEGIN:A\nEND:B\n_:1", api.ErrForm, 1},
		{"BEGIN:A\nBEGIN:b_\nno\nEND:A", api.ErrName, 1},
		{"BEGIN:A\nBEGIN:B\nEND:B\nY:1\nEND:B", api.ErrOrder, 3},
		{"BEGIN:A\nBEGIN:B\nEND:B\nX:1\nbad", api.ErrOrder, 3},
		{"BEGIN:A\nBEGIN:B\nEND:B\nY:1\nEND:A\n\n_:1", api.ErrOrder, 3},
		{"BEGIN:A\nEND:A\nX:1\n_:1", api.ErrForm, 2},
		{strings.Repeat("BEGIN:A\n", 9) + "X:\x00", api.ErrLimit, 8},

		// In one line what it is itself, and then how it stands.
		{"_:1\nBEGIN:A\nEND:A", api.ErrName, 0},
		{"BEGIN;_=1:A\nEND:A", api.ErrName, 0},
		{"BEGIN;P=\":a b\nEND:A", api.ErrForm, 0},
		{"BEGIN:A\nBEGIN:B\nEND:B\n_:1\nEND:A", api.ErrName, 3},
		{"BEGIN:A\nBEGIN:B\nEND:B\nno\nEND:A", api.ErrForm, 3},
		{"BEGIN:A\nEND;_=1:A\n", api.ErrName, 1},
		{"BEGIN:A\nEND:A\n_:1\n", api.ErrName, 2},
		{"BEGIN:A\n_:1", api.ErrName, 1},
		{strings.Repeat("BEGIN:A\n", 8) + "BEGIN;_=1:A", api.ErrName, 8},
	} {
		got, err := text.Parse(c.text)
		wantPlace(t, at("9.4: Parse(%q)", c.text), got, err, c.want, c.place)
	}
}

// TestTextLimits: how long a text may be, and how many lines it may have, is asked first, and without a place.
func TestTextLimits(t *testing.T) {
	fill := api.MaxText - len("BEGIN:A\nX:\nEND:A")
	for long, want := range map[int]api.Errno{fill: api.OK, fill + 1: api.ErrLimit, 10 * fill: api.ErrLimit} {
		s := "BEGIN:A\nX:" + x(long) + "\nEND:A"
		got, err := text.Parse(s)
		if want == api.OK {
			wantValue(t, at("9.4: a text of %d bytes", len(s)), got, err, with(api.Line{Name: "X", Value: x(long)}))
		} else {
			wantError(t, at("9.4: a text of %d bytes", len(s)), got, err, want)
		}
	}
	for many, want := range map[int]api.Errno{1998: api.OK, 1999: api.ErrLimit, 3000: api.ErrLimit} {
		s := "BEGIN:A\n" + strings.Repeat("X:1\n", many) + "END:A\n"
		got, err := text.Parse(s)
		if want == api.OK {
			wantValue(t, at("9.4: a text of %d lines: how many the part has", many+2), len(got.Lines), err, many)
		} else {
			wantError(t, at("9.4: a text of %d lines", many+2), got, err, want)
		}
	}
	folded := "BEGIN:A\nX:" + strings.Repeat("\n 1", 5000) + "\nEND:A\n"
	got, err := text.Parse(folded)
	wantValue(t, at("9.4: a line that is folded often"), got, err, with(api.Line{Name: "X", Value: strings.Repeat("1", 5000)}))
	for _, s := range []string{strings.Repeat("no\n", 2001), strings.Repeat("\n", 2001), strings.Repeat("\n", api.MaxText), x(api.MaxText + 1), strings.Repeat("\n", api.MaxText+1)} {
		got, err := text.Parse(s)
		wantError(t, at("9.4: a text of %d bytes that is none", len(s)), got, err, api.ErrLimit)
	}
	got, err = text.Parse(strings.Repeat("\n", 2000))
	wantPlace(t, at("9.4: 2000 lines that are none"), got, err, api.ErrForm, 0)
	got, err = text.Parse(x(api.MaxText))
	wantPlace(t, at("9.4: a line that is none"), got, err, api.ErrForm, 0)
}

// TestFreshLists: no two lists of an answer share anything.
func TestFreshLists(t *testing.T) {
	s := "BEGIN:A\nX;P=1,2;Q=3:v\nY;R=4:v\nBEGIN:B\nZ:1\nEND:B\nBEGIN:C\nZ:2\nEND:C\nEND:A"
	want, err := text.Parse(s)
	if err != nil {
		t.Fatalf("9.4: Parse(%q): %v", s, err)
	}
	got, _ := text.Parse(s)
	first := got.Lines[0]
	_ = append(first.Params[0].Values, "x")
	_ = append(first.Params, api.Param{Name: "X"})
	_ = append(got.Parts[0].Lines, api.Line{Name: "X"})
	_ = append(got.Parts[0].Parts, api.Part{Name: "X"})
	wantValue(t, at("P6: what was appended to its lists is not in others"), got, nil, want)
}
