package text_test

import (
	"math/rand"
	"strings"
	"testing"

	"almanac/api"
	"almanac/text"
)

// Promise 9.4: Print.

func TestPrint(t *testing.T) {
	for _, c := range []struct {
		p    api.Part
		want []string // its lines
	}{
		{api.Part{Name: "A"}, []string{"BEGIN:A", "END:A"}},
		{api.Part{Name: "BEGIN"}, []string{"BEGIN:BEGIN", "END:BEGIN"}},
		{with(api.Line{Name: "X"}), []string{"BEGIN:A", "X:", "END:A"}},
		{with(api.Line{Name: "X", Value: ` a:b;c,d="e"\` + "\té\xff "}), []string{"BEGIN:A", `X: a:b;c,d="e"\` + "\té\xff ", "END:A"}},
		{with(lineOf("P", "")), []string{"BEGIN:A", "X;P=:v", "END:A"}},
		{with(lineOf("P", "a")), []string{"BEGIN:A", "X;P=a:v", "END:A"}},
		{with(lineOf("P", "a", "b")), []string{"BEGIN:A", "X;P=a,b:v", "END:A"}},
		{with(lineOf("P", "", "", "")), []string{"BEGIN:A", "X;P=,,:v", "END:A"}},
		{with(lineOf("P", "a,b", "c;d", "e:f", "g=h", " \t", `\`, "é\xff")), []string{"BEGIN:A", `X;P="a,b","c;d","e:f",g=h,` + " \t" + `,\,é` + "\xff:v", "END:A"}},
		{with(lineOf("P", ",", ";", ":", "=")), []string{"BEGIN:A", `X;P=",",";",":",=:v`, "END:A"}},
		{
			with(api.Line{Name: "X-1", Params: []api.Param{{Name: "P", Values: []string{"1"}}, {Name: "P", Values: []string{"2", ":"}}, {Name: "0", Values: []string{""}}}, Value: "v"}, api.Line{Name: "X-1"}),
			[]string{"BEGIN:A", `X-1;P=1;P=2,":";0=:v`, "X-1:", "END:A"},
		},
		{
			api.Part{Name: "A", Lines: []api.Line{{Name: "X", Value: "1"}, {Name: "Y", Value: "2"}}, Parts: []api.Part{
				{Name: "B", Parts: []api.Part{{Name: "C", Lines: []api.Line{{Name: "Z", Value: "3"}}}}},
				{Name: "B", Lines: []api.Line{{Name: "Z", Value: "4"}}},
				{Name: "A"},
			}},
			[]string{"BEGIN:A", "X:1", "Y:2", "BEGIN:B", "BEGIN:C", "Z:3", "END:C", "END:B", "BEGIN:B", "Z:4", "END:B", "BEGIN:A", "END:A", "END:A"},
		},
	} {
		got, err := text.Print(c.p)
		wantValue(t, at("9.4: Print(%q)", c.p), got, err, strings.Join(c.want, "\r\n")+"\r\n")
	}
}

// TestPrintFolds: each line is folded by itself.
func TestPrintFolds(t *testing.T) {
	line := api.Line{Name: "X", Params: []api.Param{{Name: "P", Values: []string{strings.Repeat("é", 50), "a;b"}}}, Value: strings.Repeat("€", 50)}
	got, err := text.Print(with(line, line))
	folded := text.Fold(`X;P=` + strings.Repeat("é", 50) + `,"a;b":` + strings.Repeat("€", 50))
	if strings.Count(folded, "\n") != 4 {
		t.Fatalf("%q is not of four pieces", folded)
	}
	wantValue(t, at("9.4: lines that are long"), got, err, "BEGIN:A\r\n"+folded+folded+"END:A\r\n")
}

// TestPrintAndParse: Parse of what Print gives is what was printed.
func TestPrintAndParse(t *testing.T) {
	r := rand.New(rand.NewSource(98))
	long := 0
	for range 3000 {
		p := drawnPart(r, 1+r.Intn(8))
		printed, err := text.Print(p)
		if err != nil {
			t.Fatalf("9.4: Print(%q): %v", p, err)
		}
		got, err := text.Parse(printed)
		if len(printed) > api.MaxText {
			long++
			wantError(t, at("9.4: Parse of %d bytes", len(printed)), got, err, api.ErrLimit)
			continue
		}
		wantValue(t, at("9.4: Parse of Print(%q)", p), got, err, p)
	}
	if long > 100 {
		t.Errorf("%d texts were too long to be read", long)
	}
	for _, p := range []api.Part{nested(8), with(blanks(1998)...), {Name: "A", Parts: slicesOf(with(), 999)}} {
		printed, err := text.Print(p)
		if err != nil {
			t.Fatalf("9.4: Print of what is just not too much: %v", err)
		}
		got, err := text.Parse(printed)
		wantValue(t, at("9.4: Parse of what is just not too much"), got, err, p)
	}
}

// TestEmptyLists: lists that are empty are nil when they are read again.
func TestEmptyLists(t *testing.T) {
	p := api.Part{Name: "A", Lines: []api.Line{}, Parts: []api.Part{{Name: "B", Lines: []api.Line{{Name: "X", Params: []api.Param{}}}, Parts: []api.Part{}}}}
	printed, err := text.Print(p)
	if err != nil {
		t.Fatalf("9.4: Print(%q): %v", p, err)
	}
	got, err := text.Parse(printed)
	wantValue(t, at("9.4: Parse of Print(%q)", p), got, err, api.Part{Name: "A", Parts: []api.Part{{Name: "B", Lines: []api.Line{{Name: "X"}}}}})
}
