package twin

import (
	"maps"
	"slices"

	"almanac/api"
)

// value is what a field has: one that is not there is the zero value, so that to be there or not is a part of it.
type value struct {
	isThere bool
	text    string
}

// record is the values of fields by their names, or nil: no record, which an empty one is not. It is never written into once it is made.
type record map[string]value

// records are such by their keys: none of them is nil.
type records map[string]record

// recordOf is a record of fields, if they may be.
func recordOf(l []api.Field) (record, error) {
	r := record{}
	for _, f := range l {
		switch {
		case !Name(f.Name):
			return nil, api.ErrName
		case len(f.Value) > api.MaxText:
			return nil, api.ErrLimit
		case r[f.Name].isThere:
			return nil, api.ErrExists
		}
		r[f.Name] = value{isThere: true, text: f.Value}
	}
	return r, nil
}

// isAs says whether two records are the same.
func (r record) isAs(other record) bool {
	return (r == nil) == (other == nil) && maps.Equal(r, other)
}

// fields are a record's, in order.
func (r record) fields() []api.Field {
	var l []api.Field
	for _, name := range slices.Sorted(maps.Keys(r)) {
		l = append(l, api.Field{Name: name, Value: r[name].text})
	}
	return l
}

// read is a record's fields.
func (rs records) read(key string) ([]api.Field, error) {
	r, isThere := rs[key]
	if !isThere {
		return nil, api.ErrMissing
	}
	return r.fields(), nil
}

// keys are those of all records, in order.
func (rs records) keys() []string { return slices.Sorted(maps.Keys(rs)) }

// set has a record from now on, or none: as one of its own.
func (rs records) set(key string, r record) {
	if r == nil {
		delete(rs, key)
		return
	}
	rs[key] = maps.Clone(r)
}

// all are the keys of any of these maps, in order.
func all[V any](l ...map[string]V) []string {
	found := map[string]struct{}{}
	for _, m := range l {
		for key := range m {
			found[key] = struct{}{}
		}
	}
	return slices.Sorted(maps.Keys(found))
}
