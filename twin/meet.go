package twin

import (
	"almanac/api"
)

// Meet meets the store: what became other there comes here, what became other here goes there; where both did, field by field. Of two who wrote a field the one whose text is in the store already stays; a record that was written stays, though it was to be no more.
func (t *Twin) Meet(s *Store) api.Report {
	var report api.Report
	for _, key := range all(t.base, t.records, s.records) {
		m := meeting{key: key, base: t.base[key], ours: t.records[key], theirs: s.records[key]}
		r, lost := m.record()
		if !m.theirs.isAs(m.base) {
			report.Pulled++
		}
		if !r.isAs(m.theirs) {
			report.Pushed++
			s.take(key, r)
		}
		report.Lost = append(report.Lost, lost...)
		t.records.set(key, r)
		t.base.set(key, r)
	}
	return report
}

// meeting is what there is under a key, ahead of a meeting.
type meeting struct {
	key                string
	base, ours, theirs record
}

// record is what both have behind the meeting, and what was lost by it.
func (m meeting) record() (record, []api.Loss) {
	switch {
	case m.ours.isAs(m.base) || m.ours.isAs(m.theirs):
		return m.theirs, nil
	case m.theirs.isAs(m.base):
		return m.ours, nil
	case m.ours == nil:
		return m.theirs, []api.Loss{{Key: m.key}}
	case m.theirs == nil:
		return m.ours, nil
	}
	return m.fields()
}

// fields is what both have where both wrote. Losses are in order as keys and names are: a blank comes ahead of all that may stand in these.
func (m meeting) fields() (record, []api.Loss) {
	r := record{}
	var lost []api.Loss
	for _, name := range all(m.ours, m.theirs) {
		base, ours, theirs := m.base[name], m.ours[name], m.theirs[name]
		v := theirs
		switch {
		case ours == base:
		case theirs == base || theirs == ours:
			v = ours
		default:
			lost = append(lost, api.Loss{Key: m.key, Field: name, Value: ours.text})
		}
		if v.isThere {
			r[name] = v
		}
	}
	return r, lost
}
