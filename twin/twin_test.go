package twin_test

import (
	"math"
	"reflect"
	"strconv"
	"strings"
	"testing"

	"almanac/api"
	"almanac/twin"
)

// Promises 13.1 and 13.2: stores and twins, Put and Drop.

func TestName(t *testing.T) {
	for _, s := range []string{"a", "Z", "0", "-", "_", ".", "/", "@", "az-AZ_09./@", strings.Repeat("x", 40)} {
		if !twin.Name(s) {
			t.Errorf("13.1: Name(%q) is false", s)
		}
	}
	for _, s := range []string{"", " ", "a b", "a ", "é", "a\n", "\x00", "\x7f", "[", "`", "{", ":", "a,b", "+", strings.Repeat("x", 41)} {
		if twin.Name(s) {
			t.Errorf("13.1: Name(%q) is true", s)
		}
	}
}

func TestNothing(t *testing.T) {
	s, w := twin.NewStore(), twin.NewTwin()
	for _, thing := range []reader{s, w} {
		wantNone(t, at("13.1: nothing"), thing, "k")
		wantNone(t, at("13.1: nothing"), thing, "")
		wantSame(t, at("13.1: Keys of nothing"), thing.Keys(), []string{})
	}
	wantSame(t, at("13.1: Since of nothing"), s.Since(-1), []api.Item{})
	wantSame(t, at("13.1: Version of nothing"), s.Version(), 0)
	wantSame(t, at("13.3: Meet of nothing"), w.Meet(s), api.Report{})
	wantSame(t, at("13.1: Version of nothing"), s.Version(), 0)
	wantSaid(t, at("13.2: Drop of nothing"), w.Drop("k"), api.ErrMissing)
}

func TestPut(t *testing.T) {
	w := twin.NewTwin()
	put(t, w, "b", "z", "1", "a", "", "Z", "x\x00\xff", "@", "4")
	wantRecord(t, at("13.1: in order"), w, "b", fieldsOf("@", "4", "Z", "x\x00\xff", "a", "", "z", "1"))
	put(t, w, "B")
	wantRecord(t, at("13.2: an empty record"), w, "B", nil)
	put(t, w, "a/", "f", strings.Repeat("x", api.MaxText))
	put(t, w, "a", "f", "1")
	put(t, w, "a.", "f", "1")
	wantSame(t, at("13.1: Keys"), w.Keys(), []string{"B", "a", "a.", "a/", "b"})
	put(t, w, "b", "y", "2")
	wantRecord(t, at("13.2: no others"), w, "b", fieldsOf("y", "2"))
	drop(t, w, "b")
	wantNone(t, at("13.2: dropped"), w, "b")
	wantSaid(t, at("13.2: dropped twice"), w.Drop("b"), api.ErrMissing)
	wantSaid(t, at("13.2: Drop of no name"), w.Drop(" "), api.ErrMissing)
	wantSame(t, at("13.1: Keys"), w.Keys(), []string{"B", "a", "a.", "a/"})
	put(t, w, "b", "x", "3")
	wantRecord(t, at("13.2: again"), w, "b", fieldsOf("x", "3"))
}

// manyFields are so many fields.
func manyFields(n int) []api.Field {
	var l []api.Field
	for i := range n {
		l = append(l, api.Field{Name: strconv.Itoa(i)})
	}
	return l
}

func TestPutFaults(t *testing.T) {
	long := strings.Repeat("x", api.MaxText+1)
	for _, c := range []struct {
		key  string
		l    []api.Field
		want api.Errno
	}{
		{"", nil, api.ErrName},
		{"a b", nil, api.ErrName},
		{strings.Repeat("k", 41), nil, api.ErrName},
		{"k", manyFields(61), api.ErrLimit},
		{"k", make([]api.Field, 61), api.ErrLimit},
		{" ", make([]api.Field, 61), api.ErrName},
		{" ", fieldsOf("", ""), api.ErrName},
		{"k", fieldsOf("", ""), api.ErrName},
		{"k", fieldsOf("f", "", "f g", ""), api.ErrName},
		{"k", fieldsOf("f", long), api.ErrLimit},
		{"k", fieldsOf("", long), api.ErrName},
		{"k", fieldsOf("f", "", "f", ""), api.ErrExists},
		{"k", fieldsOf("f", "", "g", "", "f", "1"), api.ErrExists},
		{"k", fieldsOf("f", "", "f", long), api.ErrLimit},
		{"k", fieldsOf("f", long, "", ""), api.ErrLimit},
		{"k", fieldsOf("f", "", "f", "", "", ""), api.ErrExists},
		{"k", fieldsOf("f", "", "f", "", "g", long), api.ErrExists},
		{"k", fieldsOf("", "", "f", "", "f", ""), api.ErrName},
	} {
		w := twin.NewTwin()
		put(t, w, "k", "old", "1")
		wantSaid(t, at("13.2: Put(%q, %.50v)", c.key, c.l), w.Put(c.key, c.l), c.want)
		wantSame(t, at("P2: Put(%q, %.50v)", c.key, c.l), w.Keys(), []string{"k"})
		wantRecord(t, at("P2: Put(%q, %.50v)", c.key, c.l), w, "k", fieldsOf("old", "1"))
	}
	w := twin.NewTwin()
	wantSaid(t, at("13.2: sixty fields"), w.Put("k", manyFields(60)), api.OK)
}

// TestPutMany: there may be five hundred records, and more of them if the store has more.
func TestPutMany(t *testing.T) {
	w, other, s := twin.NewTwin(), twin.NewTwin(), twin.NewStore()
	for i := range api.MaxEvents {
		put(t, w, "k"+strconv.Itoa(i))
		put(t, other, "j"+strconv.Itoa(i))
	}
	wantSaid(t, at("13.2: the 501st"), w.Put("new", nil), api.ErrLimit)
	wantSaid(t, at("13.2: the 501st, with a fault"), w.Put("new", fieldsOf("", "")), api.ErrName)
	wantSaid(t, at("13.2: one of the five hundred"), w.Put("k7", fieldsOf("f", "1")), api.OK)
	drop(t, w, "k8")
	wantSaid(t, at("13.2: the 500th again"), w.Put("new", nil), api.OK)
	wantSaid(t, at("13.2: the 501st again"), w.Put("k8", nil), api.ErrLimit)
	w.Meet(s)
	wantSame(t, at("13.3: all of both"), other.Meet(s), api.Report{Pulled: 500, Pushed: 500})
	wantSame(t, at("13.3: all of both"), len(other.Keys()), 1000)
	wantSame(t, at("13.1: Version"), s.Version(), 1000)
	drop(t, other, "k7")
	wantSaid(t, at("13.2: others are 999"), other.Put("k7", nil), api.ErrLimit)
	wantSaid(t, at("13.2: it is there"), other.Put("k9", nil), api.OK)
	wantSame(t, at("13.3: Meet"), w.Meet(s), api.Report{Pulled: 500})
}

func TestSince(t *testing.T) {
	s, w := twin.NewStore(), twin.NewTwin()
	put(t, w, "b", "y", "2", "x", "1")
	put(t, w, "c")
	put(t, w, "a")
	w.Meet(s)
	want := []api.Item{{Key: "a", Version: 1}, {Key: "b", Version: 2, Fields: fieldsOf("x", "1", "y", "2")}, {Key: "c", Version: 3}}
	wantSame(t, at("13.1: Since(0)"), s.Since(0), want)
	wantSame(t, at("13.1: Since(-1)"), s.Since(-1), want)
	wantSame(t, at("13.1: Since of the least"), s.Since(math.MinInt), want)
	wantSame(t, at("13.1: Since(1)"), s.Since(1), want[1:])
	wantSame(t, at("13.1: Since(3)"), s.Since(3), want[3:])
	wantSame(t, at("13.1: Since of the greatest"), s.Since(math.MaxInt), want[3:])
	drop(t, w, "b")
	put(t, w, "a", "f", "1")
	w.Meet(s)
	want = []api.Item{want[2], {Key: "a", Version: 4, Fields: fieldsOf("f", "1")}, {Key: "b", Version: 5, Dead: true}}
	wantSame(t, at("13.1: Since(0)"), s.Since(0), want)
	wantSame(t, at("13.1: Since(3)"), s.Since(3), want[1:])
	wantSame(t, at("13.1: Since(4)"), s.Since(4), want[2:])
	wantSame(t, at("13.1: Keys"), s.Keys(), []string{"a", "c"})
	wantSame(t, at("13.1: Version"), s.Version(), 5)
	wantNone(t, at("13.1: Read"), s, "b")
	put(t, w, "b", "f", "9")
	w.Meet(s)
	wantSame(t, at("13.1: Since(5)"), s.Since(5), []api.Item{{Key: "b", Version: 6, Fields: fieldsOf("f", "9")}})
}

// TestOwn: nothing that is handed in is kept, and what is handed out may be written into.
func TestOwn(t *testing.T) {
	s, w, other := twin.NewStore(), twin.NewTwin(), twin.NewTwin()
	l := fieldsOf("g", "2", "f", "1")
	wantSaid(t, at("13.2: Put"), w.Put("k", l), api.OK)
	if !reflect.DeepEqual(l, fieldsOf("g", "2", "f", "1")) {
		t.Errorf("P4: Put wrote into %v", l)
	}
	l[0].Value = "written"
	w.Meet(s)
	other.Meet(s)
	want := fieldsOf("f", "1", "g", "2")
	for _, thing := range []reader{s, w, other} {
		got, _ := thing.Read("k")
		got[0].Value = "written"
		thing.Keys()[0] = "written"
		wantRecord(t, at("P4: Read"), thing, "k", want)
		wantSame(t, at("P4: Keys"), thing.Keys(), []string{"k"})
	}
	items := s.Since(0)
	items[0].Fields[0].Value = "written"
	items[0] = api.Item{}
	wantSame(t, at("P4: Since"), s.Since(0), []api.Item{{Key: "k", Version: 1, Fields: want}})
	put(t, w, "k", "f", "9")
	wantRecord(t, at("13.3: the store's, until they meet"), s, "k", want)
	wantRecord(t, at("13.3: the other's, until they meet"), other, "k", want)
}
