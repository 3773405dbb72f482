package zone_test

import (
	"strings"
	"testing"

	"almanac/api"
	"almanac/zone"
)

// fine are lines ahead of those that are tried: a rule, and an era with an until.
const fine = "rule q 1950 1960 4 1 02:00w +01:00\n \t\r\nera +01:00 q until 1970 6 15 12:00w\n"

// rest is an era that may stand behind them.
const rest = "\nera +02:00 -"

func TestLinesThatMayBe(t *testing.T) {
	for _, line := range []string{
		"rule a 1 1 1 1 00:00w +00:00", "rule abcdefghijABCDEFGHIJ 1 2500 12 28 24:00s -23:59", "rule AZaz 2500 2500 12 28 23:59u +23:59",
		"rule q 1960 only 2 28 02:00w -00:00", "rule q 2500 only 2 28 02:00w +00:30", "rule q 1 max 2 28 02:00w +00:30", "rule q 2500 max 2 28 02:00w +00:30",
		"rule q 1960 1960 2 last1 02:00w +01:00", "rule q 1960 1960 2 last7 02:00w +01:00", "rule q 1960 1960 2 1>=1 02:00w +01:00", "rule q 1960 1960 2 7>=28 02:00w +01:00", "rule q 1960 1960 2 7<=1 02:00w +01:00", "rule q 1960 1960 2 1<=28 02:00w +01:00",
		"rule rule 1 2 3 4 05:00w +01:00", "rule only 1 2 3 4 05:00w +01:00", "rule until 1 2 3 4 05:00w +01:00",
		"era -00:00 -", "era +23:59 q", "era -23:59 q", "era +01:00 - until 1970 6 15 12:01u\nera -01:00 -", "era +01:00 - until 2500 12 31 24:00s\nera -01:00 -", "era +01:00 q until 2000 2 29 00:00w\nera -01:00 -",
		"\t rule\tq  1950 \t1960\r4 1 02:00w +01:00 \t\r", "era\t+01:00\r- ", "", " \t\r", "\n\n",
	} {
		text := fine + line
		if !strings.Contains(line, "era") {
			text += rest
		}
		if z, err := zone.Parse(text); err != nil || z == nil {
			t.Errorf("3.2: Parse(%q): %v, %v", text, z, err)
		}
	}
}

// TestFaults: the first fault is told at the line's first byte, and nothing is made.
func TestFaults(t *testing.T) {
	for want, l := range map[api.Errno][]string{
		api.ErrForm: {
			"rules q 1 2 3 4 05:00w +01:00", "Rule q 1 2 3 4 05:00w +01:00", "eras +01:00 -", "x", "- -", "\v", "\f", "\x00", "rule\vq 1 2 3 4 05:00w +01:00", "rule\u00a0q 1 2 3 4 05:00w +01:00",
			"rule", "rule q 1 2 3 4 05:00w", "rule q 1 2 3 4 05:00w +01:00 x", "rule 1 2 3 4 05:00w +01:00", "rule q 2000 10 1 01:00u +01:00",
			"era", "era +01:00", "era +01:00 - until", "era +01:00 - until 2000 1 1", "era +01:00 - until 2000 1 1 00:00w x", "era +01:00 - 2000 1 1 00:00w", "era +01:00 - til 2000 1 1 00:00w", "era +01:00 - Until 2000 1 1 00:00w", "era +01:00 - until 2000 1 00:00w", "era until 2000 1 1 00:00w", "era +01:00 q x",
			"rule q x 2 3 4 05:00w +01:00", "rule q 01 2 3 4 05:00w +01:00", "rule q 00 2 3 4 05:00w +01:00", "rule q -0 2 3 4 05:00w +01:00", "rule q -01 2 3 4 05:00w +01:00", "rule q +1 2 3 4 05:00w +01:00", "rule q - 2 3 4 05:00w +01:00", "rule q --1 2 3 4 05:00w +01:00", "rule q 1- 2 3 4 05:00w +01:00", "rule q 1.5 2 3 4 05:00w +01:00", "rule q 1_0 20 3 4 05:00w +01:00", "rule q 0x1 2 3 4 05:00w +01:00", "rule q 1\x00 2 3 4 05:00w +01:00", "rule q only 2 3 4 05:00w +01:00", "rule q max max 3 4 05:00w +01:00", "rule q 99999x 2 3 4 05:00w +01:00",
			"rule q 1 x 3 4 05:00w +01:00", "rule q 1 02 3 4 05:00w +01:00", "rule q 1 Only 3 4 05:00w +01:00", "rule q 1 maxx 3 4 05:00w +01:00",
			"rule q 1 2 mar 4 05:00w +01:00", "rule q 1 2 03 4 05:00w +01:00",
			"rule q 1 2 3 04 05:00w +01:00", "rule q 1 2 3 last 05:00w +01:00", "rule q 1 2 3 last07 05:00w +01:00", "rule q 1 2 3 Last7 05:00w +01:00", "rule q 1 2 3 lastSun 05:00w +01:00", "rule q 1 2 3 last7>=1 05:00w +01:00", "rule q 1 2 3 7>= 05:00w +01:00", "rule q 1 2 3 >=8 05:00w +01:00", "rule q 1 2 3 7>8 05:00w +01:00", "rule q 1 2 3 7=8 05:00w +01:00", "rule q 1 2 3 7=>8 05:00w +01:00", "rule q 1 2 3 7>=x 05:00w +01:00", "rule q 1 2 3 x<=8 05:00w +01:00", "rule q 1 2 3 7<=08 05:00w +01:00", "rule q 1 2 3 7<=8>=9 05:00w +01:00", "rule q 1 2 3 7>=8<=9 05:00w +01:00",
			"rule q 1 2 3 4 05:00 +01:00", "rule q 1 2 3 4 05:00z +01:00", "rule q 1 2 3 4 05:00W +01:00", "rule q 1 2 3 4 5:00w +01:00", "rule q 1 2 3 4 05:0w +01:00", "rule q 1 2 3 4 05:000w +01:00", "rule q 1 2 3 4 0500w +01:00", "rule q 1 2 3 4 05.00w +01:00", "rule q 1 2 3 4 0x:00w +01:00", "rule q 1 2 3 4 05:x0w +01:00", "rule q 1 2 3 4 05::0w +01:00", "rule q 1 2 3 4 -5:00w +01:00", "rule q 1 2 3 4 99:99z +01:00", "rule q 1 2 3 4 w +01:00",
			"rule q 1 2 3 4 05:00w 1", "rule q 1 2 3 4 05:00w 01:00", "rule q 1 2 3 4 05:00w +1:00", "rule q 1 2 3 4 05:00w +01:00s", "rule q 1 2 3 4 05:00w +24:00", "rule q 1 2 3 4 05:00w -23:60", "rule q 1 2 3 4 05:00w +0100", "rule q 1 2 3 4 05:00w *01:00", "rule q 1 2 3 4 05:00w +0a:00", "rule q 1 2 3 4 05:00w +01:0a", "rule q 1 2 3 4 05:00w +01.00",
			"era 01:00 -", "era +1:00 -", "era +24:00 -", "era +23:60 -", "era - -", "era +01:00: -",
			"era +01:00 - until x 1 1 00:00w", "era +01:00 - until max 1 1 00:00w", "era +01:00 - until 2000 x 1 00:00w", "era +01:00 - until 2000 1 x 00:00w", "era +01:00 - until 2000 1 last7 00:00w", "era +01:00 - until 2000 1 01 00:00w", "era +01:00 - until 2000 1 1 00:00", "era +01:00 - until 2000 1 1 25:00x",
		},
		api.ErrName: {
			"rule 1q 1 2 3 4 05:00w +01:00", "rule q1 1 2 3 4 05:00w +01:00", "rule - 1 2 3 4 05:00w +01:00", "rule q_q 1 2 3 4 05:00w +01:00", "rule abcdefghijABCDEFGHIJk 1 2 3 4 05:00w +01:00", "rule \u00e9 1 2 3 4 05:00w +01:00", "rule q@ 1 2 3 4 05:00w +01:00", "rule q[ 1 2 3 4 05:00w +01:00", "rule q` 1 2 3 4 05:00w +01:00", "rule q{ 1 2 3 4 05:00w +01:00", "rule q\x00 1 2 3 4 05:00w +01:00", "rule q\v 1 2 3 4 05:00w +01:00",
			"rule 7 x 2 13 29 25:00w x",
		},
		api.ErrRange: {
			"rule q 0 2 3 4 05:00w +01:00", "rule q -1 2 3 4 05:00w +01:00", "rule q 2501 2 3 4 05:00w +01:00", "rule q 2501 max 3 4 05:00w +01:00", "rule q 99999999999999999999999999 2 3 4 05:00w +01:00", "rule q -99999999999999999999999999 2 3 4 05:00w +01:00", "rule q 18446744073709551617 18446744073709551618 3 4 05:00w +01:00", "rule q 4294967297 4294967298 3 4 05:00w +01:00",
			"rule q 1 0 3 4 05:00w +01:00", "rule q 5 -1 3 4 05:00w +01:00", "rule q 1 2501 3 4 05:00w +01:00",
			"rule q 1 2 0 4 05:00w +01:00", "rule q 1 2 13 4 05:00w +01:00", "rule q 1 2 -3 4 05:00w +01:00", "rule q 1 2 3 0 05:00w +01:00", "rule q 1 2 3 29 05:00w +01:00", "rule q 1 2 3 -4 05:00w +01:00",
			"rule q 1 2 3 last0 05:00w +01:00", "rule q 1 2 3 last8 05:00w +01:00", "rule q 1 2 3 last-1 05:00w +01:00", "rule q 1 2 3 0>=1 05:00w +01:00", "rule q 1 2 3 8>=1 05:00w +01:00", "rule q 1 2 3 7>=0 05:00w +01:00", "rule q 1 2 3 7>=29 05:00w +01:00", "rule q 1 2 3 8<=1 05:00w +01:00", "rule q 1 2 3 -1<=1 05:00w +01:00", "rule q 1 2 3 7<=0 05:00w +01:00", "rule q 1 2 3 7<=29 05:00w +01:00",
			"era +01:00 - until 0 1 1 00:00w", "era +01:00 - until 2501 1 1 00:00w", "era +01:00 - until 2000 0 1 00:00w", "era +01:00 - until 2000 13 1 00:00w", "era +01:00 - until 2000 1 0 00:00w", "era +01:00 - until 2000 1 32 00:00w", "era +01:00 - until 2000 2 32 00:00w", "era +01:00 - until 2000 2 -1 00:00w",
			"rule q 0 x 13 29 25:00w x", "rule q 1 2 13 29x 25:00w x", "rule q 1 2 3 29 25:00w x", "era +01:00 nobody until 0 x 32 25:00w", "era +01:00 nobody until 1 13 x 25:00w", "era +01:00 nobody until 1 2 32 x",
		},
		api.ErrOrder: {
			"rule q 5 2 3 4 05:00w +01:00", "rule q 2500 2499 3 4 05:00w +01:00", "rule q 5 2 13 29 25:00w x",
			"era +01:00 - until 1970 6 15 12:00w", "era -12:00 - until 1970 6 15 12:00u", "era +01:00 - until 1970 6 15 11:59s", "era +01:00 - until 1970 6 14 24:00w", "era +01:00 - until 1970 5 31 13:00w", "era +01:00 - until 1969 12 31 13:00w", "era +01:00 nobody until 1 1 1 00:00w",
		},
		api.ErrDate: {
			"rule q 1 2 3 4 24:01w +01:00", "rule q 1 2 3 4 25:00s +01:00", "rule q 1 2 3 4 23:60u +01:00", "rule q 1 2 3 4 00:60w +01:00", "rule q 1 2 3 4 99:99w +01:00", "rule q 1 2 3 4 24:60w x",
			"era +01:00 - until 2001 2 29 00:00w", "era +01:00 - until 2000 2 30 00:00w", "era +01:00 - until 1900 2 29 00:00w", "era +01:00 - until 2000 4 31 00:00w", "era +01:00 - until 2000 1 1 24:01w", "era +01:00 - until 2000 1 1 12:60u", "era +01:00 - until 2000 2 30 x", "era +01:00 - until 1960 2 30 12:00w",
		},
	} {
		for _, line := range l {
			z, err := zone.Parse(fine + line + rest)
			wantPlace(t, at("3.2: Parse(%q)", line), z, err, want, len(fine))
			text := "\n" + fine + "\t  " + line + "\r\n" + line + "\nx"
			z, err = zone.Parse(text)
			wantPlace(t, at("3.2: Parse(%q)", text), z, err, want, 1+len(fine))
		}
	}
}

// TestEraBehindTheLast: of an era behind one without until that is told ahead of all that is wrong in it.
func TestEraBehindTheLast(t *testing.T) {
	const open = "era +00:00 -\n\nrule q 1 2 3 4 05:00w +01:00\n"
	for _, line := range []string{"era +02:00 -", "era +02:00 - until 2000 1 1 00:00w", "era", "era x", "era +99:00 -", "era +02:00 - until 0 13 32 99:99z"} {
		z, err := zone.Parse(open + " " + line)
		wantPlace(t, at("3.2: Parse(%q)", open+line), z, err, api.ErrOrder, len(open))
	}
	z, err := zone.Parse(open + "eras")
	wantPlace(t, at("3.2: no era behind the last one"), z, err, api.ErrForm, len(open))
}

// TestNotWhole: what is missing is told at the text's end, behind what is wrong in the lines.
func TestNotWhole(t *testing.T) {
	const ending = "era +01:00 q until 1970 6 15 12:00w"
	for text, want := range map[string]api.Errno{
		"": api.ErrMissing, "\n": api.ErrMissing, " \t\r": api.ErrMissing, "\n\n  \n": api.ErrMissing,
		"rule q 1950 1960 4 1 02:00w +01:00": api.ErrMissing, fine: api.ErrMissing, ending: api.ErrMissing, ending + "\nera +01:00 z until 1980 1 1 00:00w\n": api.ErrMissing,
		"era +01:00 q": api.ErrName, fine + "era +01:00 Q": api.ErrName, fine + "era +01:00 qq\n": api.ErrName, fine + "era +01:00 --": api.ErrName, fine + "era +01:00 1970\n\n": api.ErrName, fine + "era +01:00 until": api.ErrName, ending + rest: api.ErrName,
		"era +01:00 " + strings.Repeat("q", 21): api.ErrName,
	} {
		z, err := zone.Parse(text)
		wantPlace(t, at("3.2: Parse(%q)", text), z, err, want, len(text))
	}
	z, err := zone.Parse("era +01:00 q\nx")
	wantPlace(t, at("3.2: a line behind rules that there are not"), z, err, api.ErrForm, 13)
	mustParse(t, "era +01:00 q\nrule q 1950 1960 4 1 02:00w +01:00")
}

func TestLongTexts(t *testing.T) {
	const era = "era +01:00 -"
	for _, fill := range []string{" ", "\n"} {
		mustParse(t, era+strings.Repeat(fill, api.MaxText-len(era)))
		for _, text := range []string{era + strings.Repeat(fill, api.MaxText+1-len(era)), strings.Repeat("x"+fill, api.MaxText)} {
			z, err := zone.Parse(text)
			wantError(t, at("3.2: a text of %d bytes", len(text)), z, err, api.ErrLimit)
		}
	}
	long := strings.Repeat("q", api.MaxText)
	z, err := zone.Parse(long)
	wantPlace(t, at("3.2: a long word"), z, err, api.ErrForm, 0)
}

// TestTooMany: the 13th rule and the 21st era are one too many, if nothing else is wrong with them.
func TestTooMany(t *testing.T) {
	rules := ""
	for i := range api.MaxRules {
		rules += "rule " + string(rune('a'+i%3)) + " 1950 1960 4 1 02:00w +01:00\n"
	}
	eras := ""
	for i := range api.MaxEras - 1 {
		eras += "era +01:00 a until 19" + string(rune('1'+i/10)) + string(rune('0'+i%10)) + " 1 1 00:00w\n"
	}
	mustParse(t, rules+eras+"era +00:00 -")
	for line, want := range map[string]api.Errno{
		"rule d 1950 1960 4 1 02:00w +01:00": api.ErrLimit, "rule a 1950 1960 4 1 02:00w +01:00": api.ErrLimit,
		"rule a 1950 1960 4 1 02:00w +1:00": api.ErrForm, "rule a 1950 1940 4 1 02:00w +01:00": api.ErrOrder, "rule a": api.ErrForm,
	} {
		z, err := zone.Parse(rules + line)
		wantPlace(t, at("3.2: %q as the 13th rule", line), z, err, want, len(rules))
	}
	eras += "era +01:00 - until 1995 1 1 00:00w\n"
	for line, want := range map[string]api.Errno{
		"era +00:00 -": api.ErrLimit, "era +00:00 - until 2000 1 1 00:00w": api.ErrLimit, "era +00:00 nobody": api.ErrLimit,
		"era 00:00 -": api.ErrForm, "era +00:00 - until 1995 1 1 00:00w": api.ErrOrder, "era +00:00 - until 2000 2 30 00:00w": api.ErrDate,
	} {
		z, err := zone.Parse(eras + line)
		wantPlace(t, at("3.2: %q as the 21st era", line), z, err, want, len(eras))
	}
}
