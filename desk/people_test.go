package desk_test

import (
	"fmt"
	"strings"
	"testing"

	"almanac/api"
)

const (
	march  = " 20240301T000000 20240401T000000"
	spring = " 20240301T000000 20240601T000000"
	first4 = "1\n20240304T090000 20240304T100000 a tea"
)

// every is an event that takes place so many times, every two hours, for one hour.
func every(uid string, times int) api.Event {
	e := tea(uid, 0)
	e.Repeats, e.Rule = true, ruleOf(fmt.Sprint("FREQ=HOURLY;INTERVAL=2;COUNT=", times))
	return e
}

func TestShow(t *testing.T) {
	free := tea("b", 0)
	free.Free, free.Title, free.Length = true, " a, b ", 0
	wantSteps(t, "14.3: what takes place", join(house(),
		[]step{{"show" + march, "0"}},
		ok(putLine(weekly("a")), putLine(free)),
		[]step{
			{"show 20240304T000000 20240312T000000", "3\n20240304T080000 20240304T090000 a tea\n20240304T090000 20240304T090000 b  a, b \n20240311T080000 20240311T090000 a tea"},
			{"show 20240304T085959 20240304T090000", "1\n20240304T080000 20240304T090000 a tea"},
			{"show 20240304T090000 20240304T090001", "1\n20240304T090000 20240304T090000 b  a, b "},
			{"show 20240304T090000 20240304T090000", "0"},
			{"show 20240101T000000 20250204T000000", "5\n20240304T080000 20240304T090000 a tea\n20240304T090000 20240304T090000 b  a, b \n20240311T080000 20240311T090000 a tea\n20240318T080000 20240318T090000 a tea\n20240325T080000 20240325T090000 a tea"},
		},
		fails(api.ErrLimit, "show 20240101T000000 20250204T000001"),
		fails(api.ErrRange, "show 20240304T090001 20240304T090000"),
		fails(api.ErrForm, "show x 20240231T000000", "show 2024 20240304T090000", "show 20240304T090000 20240304", "show 20240304T090000Z 20240304T090000", "show  20240304T090000", "show 20240304T090000 "),
		fails(api.ErrDate, "show 20240231T000000 x", "show 20240304T090000 20240304T090060"),
		fails(api.ErrRange, "show +129210819T000000 x"),
		ok("as bob"), []step{{"show" + march, "0"}},
	)...)
	wantSteps(t, "14.3: 500 lines, and more", join(house(),
		ok(putLine(every("a", 499))), []step{{"show" + spring, taken(499, " a tea")}},
		ok("drop a 0", putLine(every("b", 500))), fails(api.ErrLimit, "show"+spring),
		[]step{{"show 20240304T090000 20240304T120000", "2\n20240304T090000 20240304T100000 b tea\n20240304T110000 20240304T120000 b tea"}},
	)...)
}

// taken is how the times of every are told, with what stands behind each.
func taken(times int, behind string) string {
	var b strings.Builder
	fmt.Fprint(&b, times)
	for i := range times {
		from := local("20240304T090000") + api.Local(2*hour*i)
		b.WriteString("\n" + compact(from) + " " + compact(from+hour) + behind)
	}
	return b.String()
}

// TestShowEnds: times are told as long as clocks show some.
func TestShowEnds(t *testing.T) {
	last := api.Event{Uid: "a", Title: "end", Start: lastTime, Length: hour}
	begin := api.Event{Uid: "b", Title: "begin", Start: firstTime, Length: hour}
	from, to := compact(lastTime-hour), compact(lastTime)
	wantSteps(t, "14.3: the ends of all times", join(
		ok("user ann", "as ann", putLine(last), putLine(begin), zoneLine("W", "era -01:00 -"), zoneLine("E", eastern)),
		[]step{
			{"show " + from + " " + to, "0"},
			{"show " + compact(firstTime) + " " + compact(firstTime+1), "1\n" + compact(firstTime) + " " + compact(firstTime+hour) + " b begin"},
		},
		ok("here W"),
		[]step{
			{"show " + from + " " + compact(lastTime-hour), "0"},
			{"show " + compact(firstTime) + " " + compact(firstTime), "0"},
		},
		fails(api.ErrRange, "show "+from+" "+to),
		ok("here E"),
		[]step{{"show " + compact(lastTime-hour) + " " + compact(lastTime), "0"}},
	)...)
	late := api.Event{Uid: "c", Title: "late", Start: lastTime - 1, Length: hour}
	wantSteps(t, "14.3: a time that no clock shows", join(
		ok("user ann", "user bob", "as ann", putLine(late), zoneLine("W", "era -01:00 -"), zoneLine("E", eastern), "share bob times"),
		[]step{{"show " + from + " " + to, "1\n" + compact(lastTime-1) + " - c late"}},
		ok("here E"), fails(api.ErrRange, "show "+to+" "+from),
		[]step{{"show " + from + " " + to, "0"}},
		ok("here W"), fails(api.ErrRange, "show "+to+" "+to),
		[]step{{"show " + from + " " + from, "1\n" + compact(lastTime-1-hour) + " - c late"}},
		ok("as bob"), []step{{"look ann " + from + " " + to, "1\n" + compact(lastTime-1) + " " + to}},
	)...)
	early := api.Event{Uid: "d", Title: "early", Start: firstTime, Length: 2 * hour}
	wantSteps(t, "14.3: a time that no clock shows yet", join(
		ok("user ann", "user bob", "as ann", putLine(early), zoneLine("W", "era -01:00 -"), "here W", "share bob all"),
		[]step{{"show " + compact(firstTime) + " " + compact(firstTime+1), "1\n- " + compact(firstTime+hour) + " d early"}},
		ok("as bob"), []step{{"look ann " + compact(firstTime) + " " + compact(firstTime+1), "1\n" + compact(firstTime) + " " + compact(firstTime+2*hour) + " d early"}},
	)...)
}

func TestShareAndLook(t *testing.T) {
	wantSteps(t, "14.3: what others may see", join(house(),
		ok(putLine(tea("a", 0))),
		fails(api.ErrMissing, "share dan all", "share dan x", "share  all"),
		fails(api.ErrForm, "share bob x", "share bob ", "share bob ALL", "share ann x", "share ann "),
		fails(api.ErrState, "share ann all", "share ann none", "share ann times"),
		[]step{{"look ann" + march, first4}},
		ok("as bob"), fails(api.ErrAccess, "look ann"+march, "look ann x y", "look cy"+march), fails(api.ErrMissing, "look dan"+march, "look dan x y"),
		[]step{{"look bob" + march, "0"}}, fails(api.ErrForm, "look bob x y"),
		ok("as ann", "share bob times", "as cy"), fails(api.ErrAccess, "look ann"+march),
		ok("as bob"), []step{{"look ann" + march, "1\n20240304T090000 20240304T100000"}},
		ok("as ann"), fails(api.ErrAccess, "look bob"+march),
		ok("share bob all", "as bob"), []step{{"look ann" + march, first4}},
		ok("as ann"), fails(api.ErrForm, "share bob x"), fails(api.ErrState, "share ann none"), ok("as bob"), []step{{"look ann" + march, first4}},
		ok("as ann", "share bob none", "as bob"), fails(api.ErrAccess, "look ann"+march),
		ok("as cy", "share ann all", "share bob times", putLine(tea("c", 0)), "as ann"), []step{{"look cy" + march, strings.Replace(first4, " a ", " c ", 1)}},
		ok("as bob"), []step{{"look cy" + march, "1\n20240304T090000 20240304T100000"}},
	)...)
	for _, much := range []string{"times", "all"} {
		wantSteps(t, "14.3: faults of times, of one who shares "+much, join(house(),
			ok("share bob "+much, "as bob"),
			fails(api.ErrForm, "look ann x 20240231T000000", "look ann 20240304T090000 x"),
			fails(api.ErrDate, "look ann 20240231T000000 x"),
			fails(api.ErrRange, "look ann 20240304T090001 20240304T090000"),
			fails(api.ErrLimit, "look ann 20240101T000000 20250204T000001"),
			[]step{{"look ann 20240101T000000 20250204T000000", "0"}},
		)...)
	}
}

func TestLookTimes(t *testing.T) {
	free, late := tea("b", 0), tea("c", 0)
	free.Free, free.Start = true, local("20240304T120000")
	late.Start, late.Length = local("20240304T093000"), 3*hour
	next := tea("d", 0)
	next.Start = local("20240304T123000")
	wantSteps(t, "14.3: times that are taken", join(house(),
		ok("share bob times", putLine(tea("a", 0)), putLine(free), putLine(late), "as bob"),
		[]step{{"look ann" + march, "1\n20240304T090000 20240304T123000"}},
		ok("as ann", putLine(next), "as bob"),
		[]step{{"look ann" + march, "1\n20240304T090000 20240304T133000"}, {"look ann 20240304T091000 20240304T103000", "1\n20240304T091000 20240304T103000"}},
		ok("here X"),
		[]step{{"look ann" + march, "1\n20240304T100000 20240304T143000"}, {"look ann 20240304T090000 20240304T103000", "1\n20240304T100000 20240304T103000"}},
	)...)
	wantSteps(t, "14.3: 500 lines, and more", join(house(),
		ok("share bob times", putLine(every("a", 499)), "as bob"), []step{{"look ann" + spring, taken(499, "")}},
		ok("as ann", "drop a 0", putLine(every("b", 500)), "as bob"), fails(api.ErrLimit, "look ann"+spring),
	)...)
}

func TestInvite(t *testing.T) {
	late := tea("a", 2)
	late.Title = "later, and longer"
	wantSteps(t, "14.3: who is invited", join(house(),
		ok(putLine(tea("a", 1)), putLine(tea("b", 0))),
		fails(api.ErrMissing, "invite c bob", "invite a dan", "invite c ann", "invite c dan", "invite  bob", "invite a "),
		fails(api.ErrState, "invite a ann"),
		[]step{{"who a", "0"}, {"inbox", "0"}}, fails(api.ErrMissing, "who c", "who ", "who bob"),
		ok("invite a bob", "invite b bob", "invite b cy"),
		[]step{{"who a", "1\nbob ?"}, {"who b", "2\nbob ?\ncy ?"}, {"inbox", "0"}},
		ok("as bob"), []step{{"inbox", "2\nann a 1 tea\nann b 0 tea"}, {"uids", "0"}}, fails(api.ErrMissing, "who a"),
		ok("as ann", putLine(late), "as bob"), []step{{"inbox", "2\nann a 1 tea\nann b 0 tea"}},
		ok("as ann", "invite a bob", "as bob"), []step{{"inbox", "2\nann a 2 later, and longer\nann b 0 tea"}},
		fails(api.ErrMissing, "yes ann c", "no ann c", "yes bob a", "yes cy a", "yes dan a", "no cy b", "yes a ann", "yes  a", "no ann "),
		ok("yes ann a"), []step{{"uids", "1\na"}, {"get a", strings.Join(linesOf(late), "\n")}, {"inbox", "1\nann b 0 tea"}},
		fails(api.ErrMissing, "yes ann a", "no ann a"),
		ok("no ann b"), []step{{"uids", "1\na"}, {"inbox", "0"}}, fails(api.ErrMissing, "yes ann b", "no ann b"),
		ok("as ann"), []step{{"who a", "1\nbob yes"}, {"who b", "2\nbob no\ncy ?"}},
		ok("as cy", "yes ann b", "as ann"), []step{{"who b", "2\nbob no\ncy yes"}},
		ok("invite b bob"), []step{{"who b", "2\nbob ?\ncy yes"}},
		ok("as bob"), []step{{"inbox", "1\nann b 0 tea"}}, ok("yes ann b"), []step{{"uids", "2\na\nb"}},
		ok("as ann"), []step{{"who b", "2\nbob yes\ncy yes"}},
	)...)
}

// TestInvitePlaces: a new letter is behind all others, or in the place of the one under the same name of the same one.
func TestInvitePlaces(t *testing.T) {
	wantSteps(t, "14.3: letters in order", join(house(),
		ok(putLine(tea("a", 1)), putLine(tea("b", 2)), putLine(tea("c", 3)), "as bob", putLine(tea("a", 4)), putLine(tea("b", 5))),
		ok("as ann", "invite b cy", "as bob", "invite b cy", "invite a cy", "as ann", "invite a cy", "invite c cy"),
		ok("as cy"), []step{{"inbox", "5\nann b 2 tea\nbob b 5 tea\nbob a 4 tea\nann a 1 tea\nann c 3 tea"}},
		ok("as ann", putLine(tea("b", 6)), "invite b cy", "as bob", putLine(tea("a", 7)), "invite a cy"),
		ok("as cy"), []step{{"inbox", "5\nann b 6 tea\nbob b 5 tea\nbob a 7 tea\nann a 1 tea\nann c 3 tea"}},
		ok("no bob b"), []step{{"inbox", "4\nann b 6 tea\nbob a 7 tea\nann a 1 tea\nann c 3 tea"}},
		ok("yes ann b"), []step{{"inbox", "3\nbob a 7 tea\nann a 1 tea\nann c 3 tea"}},
		ok("as ann", "invite b cy", "as bob", "invite b cy", "as cy"), []step{{"inbox", "5\nbob a 7 tea\nann a 1 tea\nann c 3 tea\nann b 6 tea\nbob b 5 tea"}},
		fails(api.ErrOld, "yes ann b", "yes bob b"), []step{{"inbox", "5\nbob a 7 tea\nann a 1 tea\nann c 3 tea\nann b 6 tea\nbob b 5 tea"}},
		ok("no bob b", "no ann c", "yes ann a", "yes bob a"), []step{{"inbox", "1\nann b 6 tea"}, {"uids", "2\na\nb"}},
		ok("as ann"), []step{{"who a", "1\ncy yes"}, {"who b", "1\ncy ?"}, {"who c", "1\ncy no"}},
		ok("as bob"), []step{{"who a", "1\ncy yes"}, {"who b", "1\ncy no"}},
	)...)
}

// TestYes: what Put says is said, and nothing is done then.
func TestYes(t *testing.T) {
	wantSteps(t, "14.3: what Put says", join(house(),
		ok(putLine(tea("a", 1)), "invite a bob", "as bob", putLine(tea("a", 1))),
		fails(api.ErrOld, "yes ann a"), []step{{"inbox", "1\nann a 1 tea"}},
		ok("as ann"), []step{{"who a", "1\nbob ?"}},
		ok("as bob", "drop a 1"), fails(api.ErrOld, "yes ann a"), []step{{"inbox", "1\nann a 1 tea"}, {"uids", "0"}},
		ok("as ann", putLine(tea("a", 2)), "invite a bob", "as bob", "yes ann a"), []step{{"inbox", "0"}, {"uids", "1\na"}},
		ok("as ann"), []step{{"who a", "1\nbob yes"}},
	)...)
	steps := ok("user a", "user b", "as a")
	for i := range api.MaxEvents {
		steps = append(steps, ok(putLine(tea(fmt.Sprint("e", i), 0)))...)
	}
	wantSteps(t, "14.3: a book that is full", join(steps,
		ok("as b", putLine(tea("x", 0)), "invite x a", "as a"), fails(api.ErrLimit, "yes b x"), []step{{"inbox", "1\nb x 0 tea"}},
		ok("drop e7 0", "yes b x"), fails(api.ErrMissing, "drop e7 0"), ok("drop x 0", "as b"), []step{{"who x", "1\na yes"}},
	)...)
}

// TestWho: those who were ever invited are told, also behind a drop, as long as there is such an event.
func TestWho(t *testing.T) {
	wantSteps(t, "14.3: who was ever invited", join(
		ok("user ann", "user bob", "user bob-1", "user bob.", "user Bob", "user b", "as ann", putLine(tea("a", 0))),
		ok("invite a bob", "invite a bob-1", "invite a Bob", "invite a b", "invite a bob.", "as bob-1", "yes ann a", "as b", "no ann a", "as ann"),
		[]step{{"who a", "5\nBob ?\nb no\nbob ?\nbob-1 yes\nbob. ?"}},
		ok("drop a 0"), fails(api.ErrMissing, "who a", "invite a bob"),
		ok("as bob", "yes ann a", "as ann", putLine(tea("a", 1))),
		[]step{{"who a", "5\nBob ?\nb no\nbob yes\nbob-1 yes\nbob. ?"}},
		ok("invite a b"), []step{{"who a", "5\nBob ?\nb ?\nbob yes\nbob-1 yes\nbob. ?"}},
	)...)
}

func TestInboxLimit(t *testing.T) {
	steps := ok("user a", "user b", "as a")
	list := ""
	for i := range 499 {
		uid := fmt.Sprint("e", i)
		steps = append(steps, ok(putLine(tea(uid, 0)), "invite "+uid+" b")...)
		list += "\na " + uid + " 0 tea"
	}
	wantSteps(t, "14.3: 500 lines", join(steps, ok("as b"), []step{{"inbox", "499" + list}})...)
	wantSteps(t, "14.3: 501 lines", join(steps, ok(putLine(tea("x", 0)), "invite x b", "as b"), fails(api.ErrLimit, "inbox"), ok("no a e0"), []step{{"inbox", strings.Replace("499"+list, "\na e0 0 tea", "", 1) + "\na x 0 tea"}})...)
}

func TestMeet(t *testing.T) {
	const day = " 20240304T080000 20240304T120000"
	busy := func(uid, from string, length int) string {
		return putLine(api.Event{Uid: uid, Start: local(from), Length: length})
	}
	setup := join(house(), ok(busy("a", "20240304T080000", hour), "as bob", busy("b", "20240304T091500", hour), "share ann times", "as cy", busy("c", "20240304T110000", hour), "share ann all", "share bob none", "as ann"))
	wantSteps(t, "14.3: a meeting", join(setup,
		[]step{
			{"meet PT1H PT15M" + day, "20240304T090000"},
			{"meet PT15M PT15M" + day + " bob", "20240304T090000"},
			{"meet PT1H PT15M" + day + " bob", "20240304T101500"},
			{"meet PT1H PT1H" + day + " bob", "20240304T110000"},
			{"meet PT45M PT15M" + day + " bob cy", "20240304T101500"},
			{"meet PT45M PT15M" + day + " cy bob", "20240304T101500"},
			{"meet PT45M PT15M" + day + " cy bob cy bob ann cy", "20240304T101500"},
			{"meet PT1H PT15M" + day + " ann", "20240304T090000"},
			{"meet P0Y0MT3H PT1M" + day, "20240304T090000"},
			{"meet P1D P1W 20240305T000000 20240306T000000 bob cy", "20240305T000000"},
			{"meet PT4H PT1M" + day + " cy", wrong(api.ErrNone)},
			{"meet PT1H PT15M" + day + " bob cy", wrong(api.ErrNone)},
			{"meet PT1H PT15M 20240304T090000 20240304T100000", "20240304T090000"},
			{"meet PT1H PT15M 20240304T090000 20240304T095959", wrong(api.ErrNone)},
			{"meet PT1H PT15M 20240304T090000 20240304T090000", wrong(api.ErrNone)},
		},
		ok("here X"),
		[]step{{"meet PT1H PT15M 20240304T090000 20240304T130000 bob", "20240304T111500"}, {"meet PT1H PT15M 20240304T110000 20240304T130000", "20240304T110000"}},
	)...)
	free := tea("f", 0)
	free.Free = true
	wantSteps(t, "14.3: who is free can meet", join(setup, ok(putLine(free)), []step{{"meet PT1H PT15M" + day, "20240304T090000"}})...)
}

func TestMeetFaults(t *testing.T) {
	const (
		day   = " 20240304T080000 20240304T120000"
		turn  = " 20240304T120000 20240304T080000"
		years = " 20240101T000000 20250204T000001"
	)
	setup := join(house(), ok("as bob", "share ann times", "as ann"))
	wantSteps(t, "14.3: faults of a meeting, the first one ahead of the others", join(setup,
		fails(api.ErrForm, "meet x PT123456789S 20240231T000000 x dan", "meet PT1H x 20240231T000000 x dan", "meet  PT1H"+day, "meet PT1H "+day),
		fails(api.ErrLimit, "meet PT123456789S x 20240231T000000 x dan", "meet P1M PT123456789S 20240231T000000 x dan"),
		fails(api.ErrDate, "meet P1M P1Y 20240231T000000 x dan", "meet P1M P1Y 20240304T080000 20240231T000000 dan"),
		fails(api.ErrForm, "meet P1M P1Y 20240304 20240231T000000 dan", "meet P1M P1Y 20240304T080000 x dan"),
		fails(api.ErrForm, "meet P1M PT1H"+day, "meet PT1H P1M"+day, "meet P1Y PT1H"+years+" dan", "meet PT1H P1Y"+years+" dan", "meet P1YT1H PT0S"+turn),
		fails(api.ErrLimit, "meet PT1H PT1H"+years, "meet PT0S PT0S"+years+" dan", "meet PT0S PT0S"+years+" cy"),
		[]step{{"meet PT1H PT1H 20240101T000000 20250204T000000", "20240101T000000"}},
		fails(api.ErrMissing, "meet PT0S PT0S"+turn+" dan cy", "meet PT0S PT0S"+day+" bob dan", "meet PT0S PT0S"+day+" ", "meet PT0S PT0S"+day+" bob ann "),
		fails(api.ErrAccess, "meet PT0S PT0S"+turn+" cy dan", "meet PT0S PT0S"+turn+" bob cy"),
		fails(api.ErrArg, "meet PT0S PT1H"+day, "meet PT1H PT0S"+day, "meet -PT1H PT1H"+day, "meet PT1H -PT1H"+day, "meet P400DT1S PT1H"+day, "meet PT0S PT1H"+turn+" bob", "meet PT1H PT0S"+turn),
		fails(api.ErrRange, "meet PT1H PT1S"+turn, "meet PT1H PT1S"+turn+" bob", "meet PT1H PT1S +129200101T000000 20240304T080000 bob"),
		fails(api.ErrLimit, "meet PT1H PT1S"+day+" bob"),
		fails(api.ErrNone, "meet P1D PT1H"+day),
	)...)
	late := compact(lastTime)
	wantSteps(t, "14.3: meetings at the end of all times", join(
		ok("user ann", "as ann", zoneLine("W", "era -01:00 -")),
		[]step{{"meet PT1S PT1S " + compact(lastTime-1) + " " + late, compact(lastTime - 1)}},
		ok("here W"),
		fails(api.ErrRange, "meet PT1S PT1S "+compact(lastTime-1)+" "+late),
		fails(api.ErrArg, "meet PT0S PT1S "+compact(lastTime-1)+" "+late),
	)...)
}
