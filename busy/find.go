package busy

import (
	"slices"

	"almanac/api"
)

// Find is the meeting at which the most of those are that should, and the first of these; of the rooms that have seats enough and are not taken it gets the one with the least (of several the first).
func Find(w api.Want, people []Set, rooms []Room) (api.Slot, error) {
	if err := Check(w, len(people)); err != nil {
		return api.Slot{}, err
	}
	var best api.Slot
	isFound := false
	for i := range meetings(w) {
		m := meeting{at: w.From + api.Instant(i*w.Step), length: w.Length}
		if slices.ContainsFunc(w.Must, func(who int) bool { return m.meets(people[who]) }) {
			continue
		}
		room, ok := m.room(w.Seats, rooms)
		if !ok {
			continue
		}
		missing := m.missing(w.Should, people)
		if !isFound || len(missing) < len(best.Missing) {
			best, isFound = api.Slot{At: m.at, Room: room, Missing: missing}, true
		}
	}
	if !isFound {
		return api.Slot{}, api.ErrNone
	}
	return best, nil
}

// meetings is how many there may be, each one step behind the one ahead.
func meetings(w api.Want) int {
	spare := int(w.To-w.From) - w.Length
	if spare < 0 {
		return 0
	}
	return spare/w.Step + 1
}

// meeting is one of so many seconds.
type meeting struct {
	at     api.Instant
	length int
}

// meets says whether something of a set is at the meeting.
func (m meeting) meets(s Set) bool {
	first, err := s.Next(m.at)
	return err == nil && first < m.at+api.Instant(m.length)
}

// missing are those of some people who can't, rising.
func (m meeting) missing(who []int, people []Set) []int {
	var l []int
	for _, n := range who {
		if m.meets(people[n]) {
			l = append(l, n)
		}
	}
	slices.Sort(l)
	return l
}

// room is the number of the room that the meeting has, if it may have one or needs none.
func (m meeting) room(seats int, rooms []Room) (number int, ok bool) {
	number = -1
	if seats == 0 {
		return number, true
	}
	for i, r := range rooms {
		if r.Seats < seats || number >= 0 && r.Seats >= rooms[number].Seats {
			continue
		}
		if !m.meets(r.Busy) {
			number = i
		}
	}
	return number, number >= 0
}
