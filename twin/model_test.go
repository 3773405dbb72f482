package twin_test

import (
	"fmt"
	"math/rand"
	"slices"
	"sort"
	"strconv"
	"testing"

	"almanac/api"
	"almanac/twin"
)

// A model of chapter 13: the store has all that it ever was, by its versions; a record is its fields in order, as one text a field.

// note is a record as a model has it: none is nil.
type note map[string]string

// modelStore has its states, one a version, from 0 on; of each but the first it has the key that became other.
type modelStore struct {
	states []map[string]note
	keys   []string
}

// modelTwin has records, and the version of the store that it met last.
type modelTwin struct {
	notes map[string]note
	met   int
}

// now is the store's last state.
func (s *modelStore) now() map[string]note { return s.states[len(s.states)-1] }

// become adds a state, in which one key is other.
func (s *modelStore) become(key string, n note) {
	state := map[string]note{}
	for k, v := range s.now() {
		state[k] = v
	}
	state[key] = n
	s.states, s.keys = append(s.states, state), append(s.keys, key)
}

// alike says whether two records are the same.
func alike(a, b note) bool {
	return (a == nil) == (b == nil) && fmt.Sprint(a) == fmt.Sprint(b) && len(a) == len(b)
}

// textOf is a field's text: none is told otherwise than an empty one.
func textOf(n note, name string) string {
	if text, is := n[name]; is {
		return "is " + text
	}
	return "none"
}

// meet does what 13.3 says, word by word.
func (w *modelTwin) meet(s *modelStore) api.Report {
	var r api.Report
	base, theirs := s.states[w.met], s.now()
	became := map[string]bool{}
	for _, key := range s.keys[w.met:] {
		became[key] = true
	}
	for key := range became {
		if !alike(theirs[key], base[key]) {
			r.Pulled++
		}
		w.notes[key] = w.both(key, base[key], w.notes[key], theirs[key], &r)
	}
	for _, key := range w.allKeys() {
		if !alike(w.notes[key], theirs[key]) {
			s.become(key, w.notes[key])
			r.Pushed++
		}
	}
	sort.Slice(r.Lost, func(i, k int) bool {
		return r.Lost[i].Key+" "+r.Lost[i].Field < r.Lost[k].Key+" "+r.Lost[k].Field
	})
	w.met = len(s.keys)
	return r
}

// allKeys are those of all records, also of such as are no more.
func (w *modelTwin) allKeys() []string {
	var keys []string
	for key := range w.notes {
		keys = append(keys, key)
	}
	sort.Strings(keys)
	return keys
}

// both is what a twin has of a key that became other in the store.
func (w *modelTwin) both(key string, base, ours, theirs note, r *api.Report) note {
	switch {
	case alike(ours, base), alike(ours, theirs):
		return theirs
	case alike(theirs, base):
		return ours
	case ours == nil:
		r.Lost = append(r.Lost, api.Loss{Key: key})
		return theirs
	case theirs == nil:
		return ours
	}
	result := note{}
	for name := range names {
		b, o, t := textOf(base, name), textOf(ours, name), textOf(theirs, name)
		got := t
		if o != b && (t == b || t == o) {
			got = o
		} else if o != b {
			r.Lost = append(r.Lost, api.Loss{Key: key, Field: name, Value: ours[name]})
		}
		if got != "none" {
			result[name] = got[len("is "):]
		}
	}
	return result
}

// names are those of the fields that are drawn.
var names = map[string]bool{"f": true, "f-": true, "g": true, "Z": true}

// fieldsIn are a record's, in order.
func fieldsIn(n note) []api.Field {
	var l []api.Field
	for name, text := range n {
		l = append(l, api.Field{Name: name, Value: text})
	}
	sort.Slice(l, func(i, k int) bool { return l[i].Name < l[k].Name })
	return l
}

// wantAs says whether a thing has the records that a model has.
func wantAs(t *testing.T, what func() string, thing reader, notes map[string]note) {
	t.Helper()
	var keys []string
	for key, n := range notes {
		if n == nil {
			wantNone(t, what, thing, key)
			continue
		}
		keys = append(keys, key)
		wantRecord(t, what, thing, key, fieldsIn(n))
	}
	sort.Strings(keys)
	wantSame(t, what, thing.Keys(), keys)
}

// wantSince says whether the store tells what became other behind a version.
func wantSince(t *testing.T, s *twin.Store, m *modelStore, version int) {
	t.Helper()
	var want []api.Item
	for i := len(m.keys) - 1; i >= max(version, 0); i-- {
		key := m.keys[i]
		if !slices.ContainsFunc(want, func(item api.Item) bool { return item.Key == key }) {
			n := m.now()[key]
			want = append(want, api.Item{Key: key, Version: i + 1, Dead: n == nil, Fields: fieldsIn(n)})
		}
	}
	slices.Reverse(want)
	wantSame(t, at("13.1: Since(%d)", version), s.Since(version), want)
}

// house is a store with its twins, and what a model has of these.
type house struct {
	store  *twin.Store
	twins  []*twin.Twin
	model  *modelStore
	models []*modelTwin
}

// newHouse has so many twins.
func newHouse(n int) *house {
	h := &house{store: twin.NewStore(), model: &modelStore{states: []map[string]note{{}}}}
	for range n {
		h.twins = append(h.twins, twin.NewTwin())
		h.models = append(h.models, &modelTwin{notes: map[string]note{}})
	}
	return h
}

// step does one thing that is drawn.
func (h *house) step(t *testing.T, r *rand.Rand) {
	t.Helper()
	i := r.Intn(len(h.twins))
	key := "k" + strconv.Itoa(r.Intn(3))
	switch w, m := h.twins[i], h.models[i]; r.Intn(8) {
	case 0, 1, 2:
		n := note{}
		for name := range names {
			if r.Intn(2) == 0 {
				n[name] = []string{"", "1", "2"}[r.Intn(3)]
			}
		}
		wantSaid(t, at("13.2: Put"), w.Put(key, fieldsIn(n)), api.OK)
		m.notes[key] = n
	case 3, 4:
		want := api.OK
		if m.notes[key] == nil {
			want = api.ErrMissing
		}
		wantSaid(t, at("13.2: Drop"), w.Drop(key), want)
		m.notes[key] = nil
	default:
		h.meet(t, i)
	}
	wantAs(t, at("13.2: what a twin has"), h.twins[i], h.models[i].notes)
}

// meet lets one of them meet the store.
func (h *house) meet(t *testing.T, i int) {
	t.Helper()
	before, base := all(t, h.twins[i]), h.model.states[h.models[i].met]
	report := h.twins[i].Meet(h.store)
	wantSame(t, at("13.3: the report"), report, h.models[i].meet(h.model))
	wantBothSame(t, at("13.3: behind a Meet"), h.twins[i], h.store)
	wantAs(t, at("13.3: what the store has"), h.store, h.model.now())
	wantSame(t, at("13.1: Version"), h.store.Version(), len(h.model.keys))
	h.wantKept(t, before, base, report)
}

// wantKept says whether each field that somebody wrote is in the store, or told as lost.
func (h *house) wantKept(t *testing.T, before map[string][]api.Field, base map[string]note, report api.Report) {
	t.Helper()
	for key, l := range before {
		has, _ := h.store.Read(key)
		for _, f := range l {
			isNew := textOf(base[key], f.Name) != "is "+f.Value
			isLost := slices.Contains(report.Lost, api.Loss{Key: key, Field: f.Name, Value: f.Value})
			if isNew && slices.Contains(has, f) == isLost {
				t.Errorf("13.3: %s of %s: it is %t that %q was lost", f.Name, key, isLost, f.Value)
			}
		}
	}
}

func TestModel(t *testing.T) {
	r := rand.New(rand.NewSource(13))
	for range 60 {
		h := newHouse(1 + r.Intn(4))
		for range 150 {
			h.step(t, r)
			if t.Failed() {
				return
			}
		}
		for range 5 {
			wantSince(t, h.store, h.model, r.Intn(len(h.model.keys)+3)-1)
		}
		h.settle(t)
	}
}

// settle lets all meet the store twice: then all have the same.
func (h *house) settle(t *testing.T) {
	t.Helper()
	for range 2 {
		for i := range h.twins {
			h.meet(t, i)
		}
	}
	for _, w := range h.twins {
		wantBothSame(t, at("13.3: all have met"), w, h.store)
		wantSame(t, at("13.3: nothing is new"), w.Meet(h.store), api.Report{})
	}
}
