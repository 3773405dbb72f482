package twin_test

import (
	"testing"

	"almanac/api"
	"almanac/twin"
)

// Promise 13.3: Meet.

// none says that there is no record.
var none []api.Field

// lost is a loss of the one key of these tests.
func lost(field, value string) api.Loss { return api.Loss{Key: "k", Field: field, Value: value} }

// make3 brings about that two have met the store with a record, and that then both wrote, the first one also into the store.
func make3(t *testing.T, base, theirs, ours []api.Field) (*twin.Store, *twin.Twin) {
	t.Helper()
	s, first, w := twin.NewStore(), twin.NewTwin(), twin.NewTwin()
	write(t, first, none, base)
	first.Meet(s)
	w.Meet(s)
	write(t, first, base, theirs)
	first.Meet(s)
	write(t, w, base, ours)
	return s, w
}

// write gives the record other fields, or takes it away.
func write(t *testing.T, w *twin.Twin, was, is []api.Field) {
	t.Helper()
	switch {
	case is != nil:
		wantSaid(t, at("13.2: Put(%q)", is), w.Put("k", is), api.OK)
	case was != nil:
		drop(t, w, "k")
	}
}

func TestMeet(t *testing.T) {
	empty, f1, f2, f3 := fieldsOf(), fieldsOf("f", "1"), fieldsOf("f", "2"), fieldsOf("f", "3")
	for _, c := range []struct {
		what               string
		base, theirs, ours []api.Field
		want               []api.Field
		pulled, pushed     int
		lost               []api.Loss
	}{
		{"nothing", none, none, none, none, 0, 0, nil},
		{"none wrote", f1, f1, f1, f1, 0, 0, nil},
		{"a new one there", none, f1, none, f1, 1, 0, nil},
		{"a new one here", none, none, f1, f1, 0, 1, nil},
		{"an empty one there", none, empty, none, empty, 1, 0, nil},
		{"an empty one here", none, none, empty, empty, 0, 1, nil},
		{"other there", f1, f2, f1, f2, 1, 0, nil},
		{"other here", f1, f1, f2, f2, 0, 1, nil},
		{"no more there", f1, none, f1, none, 1, 0, nil},
		{"no more here", f1, f1, none, none, 0, 1, nil},
		{"an empty one no more there", empty, none, empty, none, 1, 0, nil},
		{"an empty one no more here", empty, empty, none, none, 0, 1, nil},
		{"no more, both", f1, none, none, none, 1, 0, nil},
		{"the same, both", f1, f2, f2, f2, 1, 0, nil},
		{"the same new one, both", none, f2, f2, f2, 1, 0, nil},
		{"the same empty one, both", none, empty, empty, empty, 1, 0, nil},
		{"no more here, other there", f1, f2, none, f2, 1, 0, []api.Loss{lost("", "")}},
		{"no more here, emptied there", f1, empty, none, empty, 1, 0, []api.Loss{lost("", "")}},
		{"no more there, other here", f1, none, f2, f2, 1, 1, nil},
		{"no more there, emptied here", f1, none, empty, empty, 1, 1, nil},
		{"one field, both", f1, f2, f3, f2, 1, 0, []api.Loss{lost("f", "3")}},
		{"one new field, both", none, f2, f3, f2, 1, 0, []api.Loss{lost("f", "3")}},
		{"emptied here, other there", f1, f2, empty, f2, 1, 0, []api.Loss{lost("f", "")}},
		{"emptied there, other here", f1, empty, f2, empty, 1, 0, []api.Loss{lost("f", "2")}},
		{"an empty one here, a full one there", none, f1, empty, f1, 1, 0, nil},
		{"an empty one there, a full one here", none, empty, f1, f1, 1, 1, nil},
		{"two fields", fieldsOf("a", "0", "b", "0"), fieldsOf("a", "1", "b", "0"), fieldsOf("a", "0", "b", "1"), fieldsOf("a", "1", "b", "1"), 1, 1, nil},
		{"two new fields", f1, fieldsOf("a", "0", "f", "1"), fieldsOf("b", "0", "f", "1"), fieldsOf("a", "0", "b", "0", "f", "1"), 1, 1, nil},
		{"two fields that are no more", fieldsOf("a", "0", "b", "0"), fieldsOf("a", "0"), fieldsOf("b", "0"), empty, 1, 1, nil},
		{"a field is no more, the other is other", fieldsOf("a", "0", "b", "0"), fieldsOf("a", "1"), fieldsOf("a", "2", "b", "0"), fieldsOf("a", "1"), 1, 0, []api.Loss{lost("a", "2")}},
		{"an empty text is not none", fieldsOf("a", ""), fieldsOf("b", ""), fieldsOf("a", "1"), fieldsOf("b", ""), 1, 0, []api.Loss{lost("a", "1")}},
		{"an empty text is written", none, fieldsOf("a", "1"), fieldsOf("a", ""), fieldsOf("a", "1"), 1, 0, []api.Loss{lost("a", "")}},
		{"an empty text and none", fieldsOf("a", "", "b", "0"), fieldsOf("a", "", "b", "1"), fieldsOf("b", "0"), fieldsOf("b", "1"), 1, 1, nil},
		{"one field the same, another not", fieldsOf("a", "0", "b", "0"), fieldsOf("a", "1", "b", "1"), fieldsOf("a", "1", "b", "2"), fieldsOf("a", "1", "b", "1"), 1, 0, []api.Loss{lost("b", "2")}},
		{"one field lost, another pushed", fieldsOf("a", "0", "b", "0"), fieldsOf("a", "1", "b", "0"), fieldsOf("a", "2", "b", "2"), fieldsOf("a", "1", "b", "2"), 1, 1, []api.Loss{lost("a", "2")}},
		{"many lost", fieldsOf("a", "0", "b-", "0", "b.", "0"), fieldsOf("b", "1", "b-", "1"), fieldsOf("Z", "2", "a", "2", "b", "2", "b-", "2"), fieldsOf("Z", "2", "b", "1", "b-", "1"), 1, 1, []api.Loss{lost("a", "2"), lost("b", "2"), lost("b-", "2")}},
	} {
		s, w := make3(t, c.base, c.theirs, c.ours)
		version := s.Version()
		wantSame(t, at("13.3: %s: the report", c.what), w.Meet(s), api.Report{Pulled: c.pulled, Pushed: c.pushed, Lost: c.lost})
		wantBothSame(t, at("13.3: %s", c.what), w, s)
		wantSame(t, at("13.3: %s: Version", c.what), s.Version(), version+c.pushed)
		wantSame(t, at("13.3: %s: a second time", c.what), w.Meet(s), api.Report{})
		if c.want == nil {
			wantNone(t, at("13.3: %s", c.what), w, "k")
			continue
		}
		wantRecord(t, at("13.3: %s", c.what), w, "k", c.want)
	}
}

// TestMeetBack: what became other in the store, and then as it was, is as base; but its version is later.
func TestMeetBack(t *testing.T) {
	s, first, w := twin.NewStore(), twin.NewTwin(), twin.NewTwin()
	put(t, first, "k", "f", "1")
	first.Meet(s)
	w.Meet(s)
	put(t, first, "k", "f", "2")
	first.Meet(s)
	put(t, first, "k", "f", "1")
	first.Meet(s)
	put(t, w, "k", "f", "3")
	wantSame(t, at("13.3: back"), w.Meet(s), api.Report{Pushed: 1})
	wantSame(t, at("13.1: Since"), s.Since(0), []api.Item{{Key: "k", Version: 4, Fields: fieldsOf("f", "3")}})
	wantSame(t, at("13.3: the first one"), first.Meet(s), api.Report{Pulled: 1})
	wantRecord(t, at("13.3: the first one"), first, "k", fieldsOf("f", "3"))
}

// TestMeetOwnBack: who writes a record as it was wrote nothing.
func TestMeetOwnBack(t *testing.T) {
	s, w := twin.NewStore(), twin.NewTwin()
	put(t, w, "k", "f", "1", "g", "1")
	w.Meet(s)
	drop(t, w, "k")
	put(t, w, "k", "g", "1", "f", "1")
	wantSame(t, at("13.3: as it was"), w.Meet(s), api.Report{})
	wantSame(t, at("13.1: Version"), s.Version(), 1)
	put(t, w, "new")
	drop(t, w, "new")
	wantSame(t, at("13.3: never told"), w.Meet(s), api.Report{})
	wantSame(t, at("13.1: Since"), len(s.Since(0)), 1)
}

// TestMeetOrder: keys are pushed in their order, and losses stand in order of key and field, with a blank between.
func TestMeetOrder(t *testing.T) {
	s, first, w := twin.NewStore(), twin.NewTwin(), twin.NewTwin()
	for _, key := range []string{"b", "a/", "a", "a-", "B", "gone"} {
		put(t, first, key, "y", "1", "x", "1")
		put(t, w, key, "x", "2", "y", "2", "own", "2")
	}
	put(t, first, "a", "x", "1", "x-", "1", "x.y", "1")
	put(t, w, "a", "x", "2", "x-", "2", "x.y", "2")
	drop(t, w, "gone")
	first.Meet(s)
	put(t, first, "gone", "x", "3")
	wantSame(t, at("13.1: the first six"), versions(s, 0), []string{"B", "a", "a-", "a/", "b", "gone"})
	two := func(key string) []api.Loss {
		return []api.Loss{{Key: key, Field: "x", Value: "2"}, {Key: key, Field: "y", Value: "2"}}
	}
	want := api.Report{Pulled: 6, Pushed: 4}
	want.Lost = append(want.Lost, two("B")...)
	for _, field := range []string{"x", "x-", "x.y"} {
		want.Lost = append(want.Lost, api.Loss{Key: "a", Field: field, Value: "2"})
	}
	for _, key := range []string{"a-", "a/", "b"} {
		want.Lost = append(want.Lost, two(key)...)
	}
	wantSame(t, at("13.3: the report"), w.Meet(s), want)
	wantSame(t, at("13.3: pushed in order"), versions(s, 6), []string{"B", "a-", "a/", "b"})
	drop(t, w, "gone")
	put(t, w, "B", "f", "1")
	drop(t, w, "a")
	wantSame(t, at("13.3: Meet"), w.Meet(s), api.Report{Pushed: 3})
	wantSame(t, at("13.3: pushed in order"), versions(s, 10), []string{"B", "a", "gone"})
	wantSame(t, at("13.3: the first one"), first.Meet(s), api.Report{Pulled: 6, Pushed: 1})
}

// versions are the keys that became other behind a version.
func versions(s *twin.Store, version int) []string {
	var keys []string
	for i, item := range s.Since(version) {
		if item.Version != version+1+i {
			keys = append(keys, "later")
		}
		keys = append(keys, item.Key)
	}
	return keys
}

// TestMeetOthers: what is lost of one is what another wrote, and a third one gets it.
func TestMeetOthers(t *testing.T) {
	s, a, b, c := twin.NewStore(), twin.NewTwin(), twin.NewTwin(), twin.NewTwin()
	put(t, a, "k", "f", "1")
	put(t, b, "k", "f", "2", "g", "2")
	put(t, c, "k")
	wantSame(t, at("13.3: a"), a.Meet(s), api.Report{Pushed: 1})
	wantSame(t, at("13.3: b"), b.Meet(s), api.Report{Pulled: 1, Pushed: 1, Lost: []api.Loss{lost("f", "2")}})
	wantSame(t, at("13.3: c"), c.Meet(s), api.Report{Pulled: 1})
	wantRecord(t, at("13.3: c"), c, "k", fieldsOf("f", "1", "g", "2"))
	drop(t, c, "k")
	c.Meet(s)
	put(t, a, "k", "f", "3")
	wantSame(t, at("13.3: a record that was written stays"), a.Meet(s), api.Report{Pulled: 1, Pushed: 1})
	wantSame(t, at("13.3: c"), c.Meet(s), api.Report{Pulled: 1})
	wantRecord(t, at("13.3: c"), c, "k", fieldsOf("f", "3"))
	wantSame(t, at("13.3: b"), b.Meet(s), api.Report{Pulled: 1})
	wantBothSame(t, at("13.3: b"), b, s)
}
