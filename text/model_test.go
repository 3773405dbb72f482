package text_test

import (
	"math/rand"
	"regexp"
	"strings"
	"testing"

	"almanac/api"
	"almanac/text"
)

// A model of Parse (9.4): lines by regular expressions, parts by a stack.

const (
	noControl = `[^\x00-\x08\x0a-\x1f\x7f`
	namePart  = `[A-Za-z0-9-]{1,40}`
	valuePart = `(?:"` + noControl + `"]*"|` + noControl + `",;:]*)`
	ahead     = `^` + namePart + `(?:;` + namePart + `=` + valuePart + `(?:,` + valuePart + `)*)*`
)

// The longest beginning of a line that may be, up to its value; and what may stand behind that.
var (
	aheadForm = regexp.MustCompile(ahead)
	valueForm = regexp.MustCompile(`^:(` + noControl + `]*)$`)
	nextForm  = regexp.MustCompile(`^;([^=;:]*)=`)
	nameForm  = regexp.MustCompile(`^` + namePart + `$`)
	firstForm = regexp.MustCompile(`^([^;:]*)[;:]`)
)

func init() { aheadForm.Longest() }

// lineFault is what is wrong with a line.
func lineFault(line string) api.Errno {
	first := firstForm.FindStringSubmatch(line)
	if first == nil {
		return api.ErrForm
	}
	if !nameForm.MatchString(first[1]) {
		return api.ErrName
	}
	rest := line[len(aheadForm.FindString(line)):]
	if valueForm.MatchString(rest) {
		return api.OK
	}
	if next := nextForm.FindStringSubmatch(rest); next != nil && !nameForm.MatchString(next[1]) {
		return api.ErrName
	}
	return api.ErrForm
}

// modelFault is what is wrong with a text, and in which line.
func modelFault(s string) (api.Errno, int) {
	lines := unfolded(s)
	var open []string // the names of the parts that are not at their ends
	var behind []bool // which of these have had a part
	for i, line := range lines {
		if err := lineFault(line); err != api.OK {
			return err, i
		}
		name, value, params := taken(line)
		if i > 0 && len(open) == 0 {
			return api.ErrForm, i
		}
		switch {
		case name == "BEGIN" && params, i == 0 && name != "BEGIN":
			return api.ErrForm, i
		case name == "BEGIN" && !nameForm.MatchString(value):
			return api.ErrName, i
		case name == "BEGIN" && len(open) == 8:
			return api.ErrLimit, i
		case name == "BEGIN":
			if i > 0 {
				behind[len(behind)-1] = true
			}
			open, behind = append(open, strings.ToUpper(value)), append(behind, false)
		case name == "END" && (params || !nameForm.MatchString(value) || strings.ToUpper(value) != open[len(open)-1]):
			return api.ErrForm, i
		case name == "END":
			open, behind = open[:len(open)-1], behind[:len(behind)-1]
		case behind[len(behind)-1]:
			return api.ErrOrder, i
		}
	}
	if len(open) > 0 || len(lines) == 0 {
		return api.ErrEmpty, len(lines)
	}
	return api.OK, 0
}

// taken are a line's name and value, and whether it has params.
func taken(line string) (name, value string, params bool) {
	head := aheadForm.FindString(line)
	name, _, params = strings.Cut(head, ";")
	return strings.ToUpper(name), line[len(head)+1:], params
}

// TestDrawnLines: lines that are drawn byte by byte.
func TestDrawnLines(t *testing.T) {
	r := rand.New(rand.NewSource(99))
	told := map[api.Errno]int{}
	for range 100_000 {
		line := drawnText(r, 12, "X", "P", "a", "-", ";", ";P=", ";", ":", ",", "=", "=", `"`, `"`, "_", "\x01", "é")
		s := "BEGIN:A\nX" + line + "\nEND:A"
		want := lineFault("X" + line)
		told[want]++
		p, err := text.Parse(s)
		if want != api.OK {
			wantPlace(t, at("9.4: Parse(%q)", s), p, err, want, 1)
			continue
		}
		wantValue(t, at("9.4: Parse(%q): how many lines", s), len(p.Lines), err, 1)
		wantAgain(t, s, p)
	}
	for _, want := range []api.Errno{api.OK, api.ErrForm, api.ErrName} {
		if told[want] < 1000 {
			t.Errorf("only %d lines told %d", told[want], want)
		}
	}
}

// wantAgain says whether a part that was read may be, and is read again as it was, once it is written.
func wantAgain(t *testing.T, s string, p api.Part) {
	t.Helper()
	printed, err := text.Print(p)
	if err != nil {
		t.Errorf("9.4: Print of Parse(%q): %v", s, err)
	}
	again, err := text.Parse(printed)
	wantValue(t, at("9.4: Parse of Print of Parse(%q)", s), again, err, p)
}

// TestDrawnTexts: texts that are made of drawn lines, most often of such as may be.
func TestDrawnTexts(t *testing.T) {
	r := rand.New(rand.NewSource(100))
	lines := []string{"BEGIN:A", "END:A", "BEGIN:A", "END:A", "begin:b", "End:B", "X:1", "y;p=1:2"}
	seldom := []string{"BEGIN;P=1:A", "END;P=1:A", "BEGIN:a b", "END:é", "no", "", "_:1", "X;_=1:2", "X;P=\"", " 2", "\t"}
	told := map[api.Errno]int{}
	for range 100_000 {
		all := []string{"BEGIN:A"}
		for range r.Intn(1 + r.Intn(24)) {
			from := lines
			if r.Intn(30) == 0 {
				from = seldom
			}
			all = append(all, from[r.Intn(len(from))])
		}
		s := strings.Join(append(all, "END:A"), "\n")
		want, place := modelFault(s)
		told[want]++
		p, err := text.Parse(s)
		if want != api.OK {
			wantPlace(t, at("9.4: Parse(%q)", s), p, err, want, place)
			continue
		}
		if err != nil {
			t.Errorf("9.4: Parse(%q): %v; it may be", s, err)
			continue
		}
		wantAgain(t, s, p)
	}
	for _, want := range []api.Errno{api.OK, api.ErrForm, api.ErrName, api.ErrOrder, api.ErrEmpty} {
		if told[want] < 1000 {
			t.Errorf("only %d texts told %d", told[want], want)
		}
	}
}

// TestDrawnChanges: texts of parts that may be, changed at a few bytes, are read as the model says, or their fault is told.
func TestDrawnChanges(t *testing.T) {
	r := rand.New(rand.NewSource(101))
	const bytes = "\n\r\t  \"\"::;;,,==--AaBEGINEND\x00\x7f\xff"
	for range 20_000 {
		printed, err := text.Print(drawnPart(r, 3))
		if err != nil {
			t.Fatal(err)
		}
		changed := []byte(printed)
		for range r.Intn(3) {
			changed[r.Intn(len(changed))] = bytes[r.Intn(len(bytes))]
		}
		s := string(changed)
		want, place := modelFault(s)
		p, err := text.Parse(s)
		if want != api.OK {
			wantPlace(t, at("9.4: Parse(%q)", s), p, err, want, place)
		} else if err != nil {
			t.Errorf("9.4: Parse(%q): %v; it may be", s, err)
		} else {
			wantAgain(t, s, p)
		}
	}
}
