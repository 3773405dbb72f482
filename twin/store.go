package twin

import (
	"cmp"
	"slices"

	"almanac/api"
)

// Store is where all meet.
type Store struct {
	version int
	records records
	changed map[string]int // at which version each key became other, also of those that are no more
}

// NewStore has nothing.
func NewStore() *Store { return &Store{records: records{}, changed: map[string]int{}} }

// Version is how often something became other.
func (s *Store) Version() int { return s.version }

// Read is a record.
func (s *Store) Read(key string) ([]api.Field, error) { return s.records.read(key) }

// Keys are those of all records.
func (s *Store) Keys() []string { return s.records.keys() }

// Since are the records that became other behind a version, in the order in which they did.
func (s *Store) Since(version int) []api.Item {
	var items []api.Item
	for key, changed := range s.changed {
		if changed > version {
			items = append(items, s.item(key))
		}
	}
	slices.SortFunc(items, func(a, b api.Item) int { return cmp.Compare(a.Version, b.Version) })
	return items
}

// item is what became of a key.
func (s *Store) item(key string) api.Item {
	r, isThere := s.records[key]
	return api.Item{Key: key, Version: s.changed[key], Dead: !isThere, Fields: r.fields()}
}

// take has another record from now on, or none.
func (s *Store) take(key string, r record) {
	s.version++
	s.changed[key] = s.version
	s.records.set(key, r)
}
