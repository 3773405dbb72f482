package twin_test

import (
	"fmt"
	"reflect"
	"testing"

	"almanac/api"
	"almanac/twin"
)

// at tells where a test is; only what fails asks for it.
func at(format string, args ...any) func() string {
	return func() string { return fmt.Sprintf(format, args...) }
}

// wantSaid says whether a call told this error.
func wantSaid(t *testing.T, what func() string, err error, want api.Errno) {
	t.Helper()
	if want == api.OK && err != nil || want != api.OK && err != want {
		t.Errorf("%s: %v; error %d is wanted", what(), err, want)
	}
}

// wantSame says whether what is told is as it is wanted: an empty list may be nil.
func wantSame(t *testing.T, what func() string, got, want any) {
	t.Helper()
	if fmt.Sprintf("%+q", got) != fmt.Sprintf("%+q", want) {
		t.Errorf("%s: %+q; %+q is wanted", what(), got, want)
	}
}

// wantRecord says whether there is such a record.
func wantRecord(t *testing.T, what func() string, thing reader, key string, want []api.Field) {
	t.Helper()
	got, err := thing.Read(key)
	if err != nil || fmt.Sprintf("%+q", got) != fmt.Sprintf("%+q", want) {
		t.Errorf("%s: %q: %+q, %v; %+q is wanted", what(), key, got, err, want)
	}
}

// wantNone says whether there is no such record.
func wantNone(t *testing.T, what func() string, thing reader, key string) {
	t.Helper()
	if got, err := thing.Read(key); err != api.ErrMissing || got != nil {
		t.Errorf("%s: %q: %+q, %v; no record is wanted", what(), key, got, err)
	}
}

// reader has records.
type reader interface {
	Read(key string) ([]api.Field, error)
	Keys() []string
}

// fieldsOf are fields, each by its name and text.
func fieldsOf(words ...string) []api.Field {
	l := []api.Field{}
	for i := 0; i+1 < len(words); i += 2 {
		l = append(l, api.Field{Name: words[i], Value: words[i+1]})
	}
	return l
}

// put puts a record that may be, of fields by their names and texts.
func put(t *testing.T, w *twin.Twin, key string, words ...string) {
	t.Helper()
	wantSaid(t, at("13.2: Put(%q, %q)", key, words), w.Put(key, fieldsOf(words...)), api.OK)
}

// drop drops a record that is there.
func drop(t *testing.T, w *twin.Twin, key string) {
	t.Helper()
	wantSaid(t, at("13.2: Drop(%q)", key), w.Drop(key), api.OK)
}

// all are the records of a thing, by their keys.
func all(t *testing.T, thing reader) map[string][]api.Field {
	t.Helper()
	records := map[string][]api.Field{}
	for _, key := range thing.Keys() {
		l, err := thing.Read(key)
		wantSaid(t, at("13.1: Read(%q)", key), err, api.OK)
		records[key] = l
	}
	return records
}

// wantBothSame says whether a twin has what the store has.
func wantBothSame(t *testing.T, what func() string, w *twin.Twin, s *twin.Store) {
	t.Helper()
	if a, b := all(t, w), all(t, s); !reflect.DeepEqual(a, b) {
		t.Errorf("%s: the twin has %q, the store %q", what(), a, b)
	}
}
