package desk_test

import (
	"fmt"
	"strings"
	"testing"

	"almanac/api"
	"almanac/desk"
	"almanac/text"
)

// eastern is a zone an hour ahead, plain one of no offset.
const (
	eastern = "era +01:00 -"
	plain   = "era +00:00 -"
)

// house are the lines with which most sessions begin: ann, bob and cy, a zone X, and ann does what follows.
func house() []step { return ok("user ann", "user bob", "user cy", zoneLine("X", central), "as ann") }

func TestSessionTexts(t *testing.T) {
	for _, c := range []struct{ in, want string }{
		{"", "error 18\n"},
		{"\n", "error 18\n"},
		{"\n\n", "error 18\nerror 18\n"},
		{"\n\n\n", "error 18\nerror 18\nerror 18\n"},
		{"user a", "ok\n"},
		{"user a\n", "ok\n"},
		{"user a\n\n", "ok\nerror 18\n"},
		{"\nuser a", "error 18\nok\n"},
		{"user a\nas a\n\n", "ok\nok\nerror 5\n"},
		{"user a\nas a\nuids", "ok\nok\n0\n"},
		{"user a\r\nas a", "error 8\nerror 9\n"},
		{"user a\nas a\nuids\r", "ok\nok\nerror 5\n"},
		{"user a\nas a\nuids\n ", "ok\nok\n0\nerror 5\n"},
		{"user a\nas a\n.", "ok\nok\nerror 5\n"},
		{"user a\nas a\nUIDS\n\tuids\n uids\nuids ", "ok\nok\nerror 5\nerror 5\nerror 5\nerror 5\n"},
		{"user  a", "error 18\n"},
		{"user a ", "error 18\n"},
		{"user ", "error 8\n"},
		{" user a", "error 18\n"},
		{"user a\nas ", "ok\nerror 9\n"},
		{"user ä\x00", "error 8\n"},
		{"\xff", "error 18\n"},
	} {
		wantSession(t, "14.3: a text", c.in, c.want)
	}
	longest := "user a\nas a\n" + strings.Repeat("x", api.MaxText-12)
	wantSession(t, "14.3: a text of MaxText bytes", longest, "ok\nok\nerror 5\n")
	wantSession(t, "14.3: a longer text", longest+"x", "error 6\n")
	wantSession(t, "14.3: a text that is longer by a line feed", longest+"\n", "error 6\n")
}

func TestSessionBlocks(t *testing.T) {
	put := strings.TrimSuffix(putLine(tea("a", 0)), "\n.")
	for _, c := range []struct{ what, in, want string }{
		{"a block up to its end", "zone X\nera +01:00 -\n.\nuser a", "ok\nok\n"},
		{"a block up to the text's end", "user a\nzone X\nera +01:00 -", "ok\nok\n"},
		{"a block up to the text's end, with a line feed", "user a\nzone X\nera +01:00 -\n", "ok\nok\n"},
		{"no block", "zone X", "error 9\n"},
		{"an empty block", "zone X\n.\nuser a", "error 9\nok\n"},
		{"a block of empty lines", "zone X\n\n\n.\nuser a", "error 9\nok\n"},
		{"a block with lines of sessions", "zone X\nuser b\n.\nuser a\nas b", "error 5\nok\nerror 9\n"},
		{"a block with the lines of blocks", "zone X\nzone Y\n.\nuser a", "error 5\nok\n"},
		{"an end with something behind", "zone X\nera +01:00 -\n. \n.\nuser a", "error 5\nok\n"},
		{"an end with something ahead", "zone X\nera +01:00 -\n .\n..\n.\nuser a", "error 5\nok\n"},
		{"an end with a return", "zone X\nera +01:00 -\n.\r\n.\nuser a", "error 5\nok\n"},
		{"two ends", "zone X\nera +01:00 -\n.\n.\nuser a", "ok\nerror 18\nok\n"},
		{"a zone without a name", "zone\nuser a\n.\nuser b", "error 18\nok\n"},
		{"a zone with two names", "zone X Y\nuser a\n.\nas a", "error 18\nerror 9\n"},
		{"a zone whose name is none", "zone !\nuser a\n.\nas a", "error 8\nerror 9\n"},
		{"a zone with no name", "zone \nuser a\n.\nas a", "error 8\nerror 9\n"},
		{"an event ahead of all", "put\nuser a\n.\nas a", "error 18\nerror 9\n"},
		{"an event with a name", "user a\nas a\nput x\nuids\n.\nuids", "ok\nok\nerror 5\n0\n"},
		{"another word", "user a\nas a\nputs\nuids", "ok\nok\nerror 5\n0\n"},
		{"another word of great letters", "user a\nas a\nPUT\nuids", "ok\nok\nerror 5\n0\n"},
		{"an event", "user a\nas a\n" + put + "\n.\nuids", "ok\nok\nok\n1\na\n"},
		{"an event up to the text's end", "user a\nas a\n" + put, "ok\nok\nok\n"},
		{"an event, with returns", "user a\nas a\nput\n" + strings.ReplaceAll(strings.TrimPrefix(put, "put\n"), "\n", "\r\n") + "\r\n.\nuids", "ok\nok\nok\n1\na\n"},
		{"an event whose lines go on", "user a\nas a\n" + strings.Replace(put, "UID:a", "UI\n D:\n\ta", 1) + "\n.\nuids", "ok\nok\nok\n1\na\n"},
		{"an event in small letters", "user a\nas a\n" + strings.Replace(put, "UID:a", "uid:a", 1) + "\n.\nuids", "ok\nok\nok\n1\na\n"},
		{"an empty line in an event", "user a\nas a\n" + strings.Replace(put, "UID:a", "UID:a\n", 1) + "\n.\nuids", "ok\nok\nerror 5\n0\n"},
	} {
		wantSession(t, "14.3: "+c.what, c.in, c.want)
	}
}

func TestSessionState(t *testing.T) {
	lines := []string{"here -", "put\n.", "drop a 0", "get a", "uids", "split a 20240304T090000 b", "show 20240304T090000 20240304T090000", "look a 1 2",
		"share a all", "invite a b", "inbox", "yes a b", "no a b", "who a", "meet 1 2 3 4", "meet 1 2 3 4 5", "x", "", "user", "user a b", "as", "as a b", "zone\n.", "zone a b\n.", "User a"}
	wantSteps(t, "14.3: ahead of all", fails(api.ErrState, lines...)...)
	wantSteps(t, "14.3: nobody was named", join(ok("user a"), fails(api.ErrState, lines...), fails(api.ErrMissing, "as b"), fails(api.ErrState, lines...))...)

	none := []string{"", " ", "x", ".", "user", "user a b", "as", "as a b", "zone\n.", "zone a b\n.", "here", "here a b", "put x\n.", "put \n.", "drop a", "drop a 0 1", "get", "get a b",
		"uids a", "split a b", "split a b c d", "show 1", "show 1 2 3", "show", "look a 1", "look a 1 2 3", "share a", "share a all b", "invite a", "invite a b c",
		"inbox a", "yes a", "yes a b c", "no a", "no a b c", "who", "who a b", "meet", "meet 1 2 3", "Uids", "get  a", "uids ", " uids"}
	wantSteps(t, "14.3: lines that are none", join(ok("user a", "as a"), fails(api.ErrForm, none...))...)
	wantSteps(t, "14.3: who was named stays", join(house(), ok(putLine(tea("a", 0))), fails(api.ErrMissing, "as dan"), []step{{"uids", "1\na"}})...)
}

func TestUser(t *testing.T) {
	long := strings.Repeat("x", 40)
	wantSteps(t, "14.3: names", join(
		ok("user a", "user A", "user b-1_./@", "user "+long, "user -"),
		fails(api.ErrName, "user ", "user "+long+"x", "user ä", "user a!", "user a\t"),
		fails(api.ErrExists, "user a", "user A"),
		ok("as a"), fails(api.ErrExists, "user a"), ok("user dan"), []step{{"uids", "0"}},
	)...)
	var many []string
	for i := range 60 {
		many = append(many, fmt.Sprint("user u", i))
	}
	wantSteps(t, "14.3: sixty people, and no more", join(
		ok(many...), fails(api.ErrLimit, "user u60", "user x"), fails(api.ErrName, "user !"), fails(api.ErrExists, "user u59", "user u0"),
		fails(api.ErrMissing, "as u60"), ok("as u59"), fails(api.ErrLimit, "user u60"),
	)...)
}

func TestZone(t *testing.T) {
	in := func(uid, zone string) string {
		e := tea(uid, 0)
		e.Zone = zone
		return putLine(e)
	}
	const show = "show 20240304T000000 20240305T000000"
	wantSteps(t, "14.3: zones", join(
		ok("user ann", zoneLine("X", eastern), "user bob", zoneLine("Y", "era +02:00 -"), "user cy"),
		fails(api.ErrName, zoneLine("", eastern), zoneLine("!", eastern), zoneLine("ä", "x")),
		fails(api.ErrForm, zoneLine("X", "x"), zoneLine("Z", "era 1 -"), zoneLine("X", "era -")),
		fails(api.ErrMissing, zoneLine("X", ""), zoneLine("X", "era +01:00 - until 2000 1 1 00:00u")),
		fails(api.ErrOrder, zoneLine("X", eastern+"\n"+eastern)),
		ok("as ann", in("x", "X"), in("y", "Y")), fails(api.ErrMissing, in("z", "Z")),
		ok("as bob", in("x", "X"), in("y", "Y"), "as cy", in("x", "X"), in("y", "Y")),
		[]step{{show, "2\n20240304T070000 20240304T080000 y tea\n20240304T080000 20240304T090000 x tea"}},
		ok(zoneLine("X", "era +03:00 -"), "user dan"),
		[]step{{show, "2\n20240304T060000 20240304T070000 x tea\n20240304T070000 20240304T080000 y tea"}},
		ok("as ann"),
		[]step{{show, "2\n20240304T060000 20240304T070000 x tea\n20240304T070000 20240304T080000 y tea"}},
		ok("as dan", in("x", "X"), in("y", "Y")),
		[]step{{show, "2\n20240304T060000 20240304T070000 x tea\n20240304T070000 20240304T080000 y tea"}},
		fails(api.ErrForm, zoneLine("X", "x")),
		[]step{{show, "2\n20240304T060000 20240304T070000 x tea\n20240304T070000 20240304T080000 y tea"}},
		ok(zoneLine("X", plain), zoneLine("X", eastern), zoneLine("-", "era +05:00 -"), "user eve", "as eve", in("x", "X"), in("z", "-")),
		[]step{{show, "2\n20240304T040000 20240304T050000 z tea\n20240304T080000 20240304T090000 x tea"}},
	)...)
}

func TestHere(t *testing.T) {
	const show = "show 20240304T090000 20240304T100000"
	wantSteps(t, "14.3: times by the clocks of a zone", join(house(),
		ok(putLine(tea("a", 0)), zoneLine("Y", eastern), zoneLine("-", "era +05:00 -")),
		[]step{{show, "1\n20240304T090000 20240304T100000 a tea"}},
		ok("here Y"),
		[]step{{show, "0"}, {"show 20240304T100000 20240304T110000", "1\n20240304T100000 20240304T110000 a tea"}},
		fails(api.ErrMissing, "here Q", "here y", "here ann"),
		ok("here X", "here Y", zoneLine("Y", "era +08:00 -")),
		[]step{{"show 20240304T100000 20240304T110000", "0"}},
		[]step{{"show 20240304T170000 20240304T180000", "1\n20240304T170000 20240304T180000 a tea"}},
		ok("share bob all", "as bob"),
		[]step{{"look ann 20240304T090000 20240304T100000", "1\n20240304T090000 20240304T100000 a tea"}},
		ok("here X"),
		[]step{{"look ann 20240304T090000 20240304T100000", "0"}, {"look ann 20240304T100000 20240304T110000", "1\n20240304T100000 20240304T110000 a tea"}},
		ok("as ann"),
		[]step{{"show 20240304T170000 20240304T180000", "1\n20240304T170000 20240304T180000 a tea"}},
		ok("here -"),
		[]step{{show, "1\n20240304T090000 20240304T100000 a tea"}},
		ok("here Y", "here "),
		[]step{{show, "1\n20240304T090000 20240304T100000 a tea"}},
	)...)

	night := func(uid, from string) string {
		return putLine(api.Event{Uid: uid, Start: local(from), Length: 600})
	}
	wantSteps(t, "14.3: a time that is shown twice is the first one, one that is never shown the earlier one", join(house(),
		ok("here X", night("a", "20241027T001500"), night("b", "20241027T011500"), night("c", "20240331T001500"), night("d", "20240331T005500"), night("e", "20240331T012500")),
		[]step{
			{"show 20241027T023000 20241027T030000", "1\n20241027T021500 20241027T022500 b "},
			{"show 20241027T020000 20241027T023000", "1\n20241027T021500 20241027T022500 a "},
			{"show 20240331T023000 20240331T033000", "2\n20240331T015500 20240331T030500 d \n20240331T032500 20240331T033500 e "},
		},
	)...)
}

// TestHereAnew: clocks are those of the zone when times are told or read, not those that it had when it was named.
func TestHereAnew(t *testing.T) {
	const (
		atZero   = " 20240304T090000 20240304T100000"
		eastward = " 20240304T120000 20240304T130000"
		westward = " 20240304T040000 20240304T050000"
	)
	east, west := zoneLine("Y", "era +03:00 -"), zoneLine("Y", "era -05:00 -")
	tells := func(line, times string) step { return step{line + times, "1\n" + times[1:] + " a tea"} }
	wantSteps(t, "14.3: a zone that is set anew", join(house(),
		ok(putLine(tea("a", 0)), "share bob all", "share cy times", zoneLine("Y", eastern), "as bob", "here Y", "as cy", "here Y", "as ann", "here Y", east),
		[]step{tells("show", eastward), {"show" + atZero, "0"}, tells("look ann", eastward)},
		ok("as bob"), []step{tells("look ann", eastward), {"look ann" + atZero, "0"}},
		ok("as cy"), []step{{"look ann" + eastward, "1\n" + eastward[1:]}, {"look ann" + atZero, "0"}},
		[]step{{"meet PT1H PT30M 20240304T113000 20240304T140000 ann", "20240304T130000"}, {"meet PT1H PT30M 20240304T083000 20240304T110000 ann", "20240304T083000"}},
		ok(west), []step{{"look ann" + westward, "1\n" + westward[1:]}, {"meet PT1H PT30M 20240304T033000 20240304T060000 ann", "20240304T050000"}},
		ok("as ann"), []step{tells("show", westward), {"show" + eastward, "0"}},
	)...)
	wantSteps(t, "14.3: a zone that is not set anew", join(house(),
		ok(putLine(tea("a", 0)), east, "here Y"),
		fails(api.ErrForm, zoneLine("Y", "x")), fails(api.ErrMissing, zoneLine("Y", ""), "here Z"), fails(api.ErrName, zoneLine("Y!", eastern)),
		[]step{tells("show", eastward)},
		ok(zoneLine("Z", "era -05:00 -"), zoneLine("y", plain), "user dan"), []step{tells("show", eastward)},
		ok("here Z"), []step{tells("show", westward)}, ok(zoneLine("Y", plain)), []step{tells("show", westward)},
	)...)
	wantSteps(t, "14.3: offset 0 is no zone that is set", join(house(),
		ok(putLine(tea("a", 0)), "share bob all", zoneLine("-", eastern)), []step{tells("show", atZero)},
		ok("here -", zoneLine("-", "era -05:00 -"), east), []step{tells("show", atZero)},
		ok("here Y", "here -", west), []step{tells("show", atZero)},
		ok("here Y", "here ", east), []step{tells("show", atZero)},
		ok("as bob"), []step{tells("look ann", atZero)},
	)...)
	late, last := compact(lastTime-1), compact(lastTime)
	wantSteps(t, "14.3: the ends of all times, by a zone that is set anew", join(
		ok("user ann", "as ann", putLine(api.Event{Uid: "a", Title: "tea", Start: lastTime - 1, Length: hour}), east, "here Y", zoneLine("Y", plain)),
		[]step{{"show " + late + " " + last, "1\n" + late + " - a tea"}},
		ok(west), fails(api.ErrRange, "show "+late+" "+last),
		ok(east), []step{{"show " + late + " " + last, "0"}},
		ok(zoneLine("Y", plain)), []step{{"show " + late + " " + last, "1\n" + late + " - a tea"}},
	)...)
}

func TestPut(t *testing.T) {
	spoilt := func(from, to string) string { return strings.Replace(putLine(tea("a", 3)), from, to, 1) }
	wantSteps(t, "14.3: events", join(house(),
		fails(api.ErrForm, "put\nx\n.", spoilt("END:VEVENT\n", ""), spoilt("VCALENDAR", "X"), spoilt("PT1H", "P1M"), "put\nBEGIN:VCALENDAR\nEND:VCALENDAR\n."),
		fails(api.ErrEmpty, "put\n."),
		fails(api.ErrName, "put\n!:\n.", spoilt("SUMMARY", "X"), spoilt("UID:a", "UID:"), spoilt("DTSTART", "DTSTART;TZID=!")),
		fails(api.ErrDate, spoilt("20240304", "20240231")),
		fails(api.ErrExists, spoilt("UID:a", "UID:a\nUID:a")),
		fails(api.ErrArg, spoilt("SEQUENCE:3", "SEQUENCE:-3")),
		fails(api.ErrMissing, spoilt("DTSTART", "DTSTART;TZID=Q")),
		[]step{{"uids", "0"}},
		ok(spoilt("", "")), fails(api.ErrOld, spoilt("", ""), spoilt("SEQUENCE:3", "SEQUENCE:2")), ok(spoilt("SEQUENCE:3", "SEQUENCE:4")),
		[]step{{"uids", "1\na"}},
		ok("as bob"), []step{{"uids", "0"}}, ok(spoilt("SEQUENCE:3", "SEQUENCE:0")),
		[]step{{"uids", "1\na"}},
	)...)
}

func TestDrop(t *testing.T) {
	wantSteps(t, "14.3: what is dropped", join(house(),
		ok(putLine(tea("a", 3)), putLine(tea("b", 0))),
		fails(api.ErrMissing, "drop c 0", "drop A 3", "drop  1"),
		fails(api.ErrOld, "drop a 2", "drop a 0", "drop a -1", "drop b -1", "drop b -99999999999999999999"),
		fails(api.ErrForm, "drop a 03", "drop a ", "drop a +3", "drop a x", "drop a 3x", "drop a -0", "drop a 00", "drop c 03"),
		ok("drop a 3"), fails(api.ErrMissing, "drop a 3"), []step{{"uids", "1\nb"}},
		fails(api.ErrOld, putLine(tea("a", 3))), ok(putLine(tea("a", 4))),
		ok("drop b 7"), fails(api.ErrOld, putLine(tea("b", 7))), ok(putLine(tea("b", 8))),
		ok("drop b 99999999999999999999"), fails(api.ErrOld, putLine(tea("b", 1_000_000))),
		[]step{{"uids", "1\na"}},
	)...)
}

func TestGet(t *testing.T) {
	e := full()
	e.Zone = "X"
	e.Title = strings.Repeat("a, ", 40)
	var folded []string
	for _, l := range linesOf(e) {
		for _, piece := range strings.Split(strings.TrimSuffix(text.Fold(l), "\r\n"), "\r\n") {
			folded = append(folded, piece)
		}
	}
	if len(folded) != len(linesOf(e))+2 {
		t.Errorf("the event has no long line: %q", folded)
	}
	wantSteps(t, "14.3: an event is told", join(house(),
		ok(putLine(e), putLine(tea("b", 0))),
		[]step{{"get full", strings.Join(folded, "\n")}, {"get b", strings.Join(linesOf(tea("b", 0)), "\n")}},
		fails(api.ErrMissing, "get a", "get ", "get FULL"),
		ok("as bob"), fails(api.ErrMissing, "get full"),
	)...)
	wantSteps(t, "14.3: what is told may be put again", join(house(),
		ok("put\n"+strings.Join(folded, "\n")+"\n."), []step{{"get full", strings.Join(folded, "\n")}},
	)...)
}

// TestGetLimit: an event of 500 lines is told, one of 501 is not.
func TestGetLimit(t *testing.T) {
	for _, c := range []struct{ title, lines int }{{35, 500}, {75, 501}} {
		e := tea("a", 0)
		e.Title = strings.Repeat(",", c.title)
		for i := range 60 {
			e.Others = append(e.Others, api.Other{At: local("20240304T090000") + api.Local(i)})
			if i < 14 {
				e.Others[i].Title = strings.Repeat(",", 190)
			}
		}
		p, err := desk.Export(e)
		if err != nil {
			t.Fatalf("14.1: %v", err)
		}
		s, err := text.Print(p)
		if n := strings.Count(s, "\n"); err != nil || n != c.lines {
			t.Fatalf("the event has %d lines, %v; %d are wanted", n, err, c.lines)
		}
		want := strings.ReplaceAll(strings.TrimSuffix(s, "\n"), "\r", "")
		if c.lines > api.MaxTold {
			want = wrong(api.ErrLimit)
		}
		wantSteps(t, fmt.Sprintf("14.3: an event of %d lines", c.lines), join(ok("user a", "as a", putLine(e)), []step{{"get a", want}, {"uids", "1\na"}})...)
	}
}

func TestUids(t *testing.T) {
	wantSteps(t, "14.3: names of events", join(house(),
		[]step{{"uids", "0"}},
		ok(putLine(tea("b", 0)), putLine(tea("a", 0)), putLine(tea("B", 0)), putLine(tea("b-1", 0))),
		[]step{{"uids", "4\nB\na\nb\nb-1"}},
		ok("as bob"), []step{{"uids", "0"}},
	)...)
	steps := ok("user a", "as a")
	list := ""
	for i := range api.MaxEvents - 1 {
		uid := fmt.Sprintf("e%03d", i)
		steps = append(steps, ok(putLine(tea(uid, 0)))...)
		list += "\n" + uid
	}
	wantSteps(t, "14.3: 500 lines", append(steps, step{"uids", "499" + list})...)
	full := append(steps, ok(putLine(tea("x", 0)))...)
	wantSteps(t, "14.3: 501 lines", append(full, step{"uids", wrong(api.ErrLimit)}, step{putLine(tea("y", 0)), wrong(api.ErrLimit)})...)
}

func TestSplit(t *testing.T) {
	wantSteps(t, "14.3: an event is split", join(house(),
		ok(putLine(weekly("a")), putLine(tea("b", 0)), "here X"),
		fails(api.ErrForm, "split a 2024-03-18T09:00:00 z", "split a x z", "split a  z", "split q x z", "split a x !"),
		fails(api.ErrDate, "split a 20240231T090000 z"),
		fails(api.ErrMissing, "split q 20240318T090000 z", "split q 20240318T090000 !"),
		fails(api.ErrName, "split a 20240318T090000 ", "split a 20240318T090000 !"),
		fails(api.ErrExists, "split a 20240318T090000 a", "split a 20240318T090000 b"),
		fails(api.ErrState, "split b 20240304T090000 z", "split a 20240304T090000 z", "split a 20240318T080000 z", "split a 20240318T100000 z"),
		[]step{{"uids", "2\na\nb"}},
		ok("split a 20240318T090000 z"),
		[]step{{"uids", "3\na\nb\nz"}, {"show 20240305T000000 20240401T000000", "3\n20240311T090000 20240311T100000 a tea\n20240318T090000 20240318T100000 z tea\n20240325T090000 20240325T100000 z tea"}},
		fails(api.ErrExists, "split a 20240311T090000 z"),
	)...)
}
