package busy_test

import (
	"math"
	"math/rand"
	"reflect"
	"slices"
	"testing"

	"almanac/api"
	"almanac/busy"
)

// Promise 11.2: Find.

func TestFind(t *testing.T) {
	free := taken()
	for _, c := range []struct {
		what   string
		want   api.Want
		people []busy.Set
		rooms  []busy.Room
		slot   api.Slot
	}{
		{"nobody, no room", api.Want{Length: 10, Step: 5, From: 100, To: 200}, nil, nil, api.Slot{At: 100, Room: -1}},
		{"just in time", api.Want{Length: 10, Step: 5, From: 100, To: 110}, nil, nil, api.Slot{At: 100, Room: -1}},
		{"one who must", api.Want{Length: 10, Step: 5, From: 100, To: 200, Must: []int{0}}, []busy.Set{taken(0, 123)}, nil, api.Slot{At: 125, Room: -1}},
		{"one who must, up to its beginning", api.Want{Length: 10, Step: 5, From: 100, To: 200, Must: []int{0}}, []busy.Set{taken(0, 120, 130, 500)}, nil, api.Slot{At: 120, Room: -1}},
		{"one who must, a second too long", api.Want{Length: 10, Step: 5, From: 100, To: 200, Must: []int{0}}, []busy.Set{taken(0, 120, 129, 150)}, nil, api.Slot{At: 150, Room: -1}},
		{"one who must, a second within", api.Want{Length: 10, Step: 5, From: 100, To: 200, Must: []int{0}}, []busy.Set{taken(104, 105, 111, 112)}, nil, api.Slot{At: 115, Room: -1}},
		{"two who must", api.Want{Length: 10, Step: 5, From: 100, To: 200, Must: []int{1, 0}}, []busy.Set{taken(0, 120), taken(125, 141)}, nil, api.Slot{At: 145, Room: -1}},
		{"others do not matter", api.Want{Length: 10, Step: 5, From: 100, To: 200, Must: []int{1}}, []busy.Set{taken(0, 500), free}, nil, api.Slot{At: 100, Room: -1}},
		{"the last one", api.Want{Length: 10, Step: 5, From: 100, To: 200, Must: []int{0}}, []busy.Set{taken(0, 190)}, nil, api.Slot{At: 190, Room: -1}},
		{"the last one does not end with To", api.Want{Length: 10, Step: 7, From: 100, To: 130, Must: []int{0}}, []busy.Set{taken(0, 114)}, nil, api.Slot{At: 114, Room: -1}},

		{"the fewest of those who should", api.Want{Length: 10, Step: 10, From: 0, To: 50, Should: []int{2, 0, 1}}, []busy.Set{taken(0, 30), taken(0, 10, 20, 50), taken(0, 20)}, nil, api.Slot{At: 30, Room: -1, Missing: []int{1}}},
		{"the first of like ones", api.Want{Length: 10, Step: 10, From: 0, To: 50, Should: []int{0, 1}}, []busy.Set{taken(0, 30), taken(0, 10, 20, 50)}, nil, api.Slot{At: 10, Room: -1, Missing: []int{0}}},
		{"who is missing, rising", api.Want{Length: 10, Step: 10, From: 0, To: 50, Should: []int{3, 0, 2}}, []busy.Set{taken(0, 50), free, taken(9, 50), taken(0, 11, 19, 50)}, nil, api.Slot{At: 0, Room: -1, Missing: []int{0, 2, 3}}},
		{"nobody who should can", api.Want{Length: 10, Step: 10, From: 0, To: 20, Must: []int{2}, Should: []int{1, 0}}, []busy.Set{taken(0, 50), taken(0, 50), taken(0, 1)}, nil, api.Slot{At: 10, Room: -1, Missing: []int{0, 1}}},
		{"those who must come first", api.Want{Length: 10, Step: 10, From: 0, To: 30, Must: []int{2}, Should: []int{1, 0}}, []busy.Set{taken(20, 30), taken(20, 30), taken(0, 20)}, nil, api.Slot{At: 20, Room: -1, Missing: []int{0, 1}}},

		{"no room is needed", api.Want{Length: 10, Step: 10, From: 0, To: 30}, nil, []busy.Room{{Seats: 5}}, api.Slot{At: 0, Room: -1}},
		{"the room with the fewest seats", api.Want{Length: 10, Step: 10, From: 0, To: 30, Seats: 3}, nil, []busy.Room{{Seats: 5}, {Seats: 2}, {Seats: 3}, {Seats: 4}, {Seats: 3}}, api.Slot{At: 0, Room: 2}},
		{"the one that is not taken", api.Want{Length: 10, Step: 10, From: 0, To: 30, Seats: 3}, nil, []busy.Room{{Seats: 5}, {Seats: 2}, {Seats: 3, Busy: taken(9, 10)}, {Seats: 4, Busy: taken(0, 1)}, {Seats: 3}}, api.Slot{At: 0, Room: 4}},
		{"the first of like ones", api.Want{Length: 10, Step: 10, From: 0, To: 30, Seats: 1}, nil, []busy.Room{{Seats: 9, Busy: taken(0, 10)}, {Seats: 9}, {Seats: 9}}, api.Slot{At: 0, Room: 1}},
		{"a greater room, sooner", api.Want{Length: 10, Step: 10, From: 0, To: 30, Seats: 1}, nil, []busy.Room{{Seats: 1, Busy: taken(0, 10)}, {Seats: 9}}, api.Slot{At: 0, Room: 1}},
		{"a room is needed", api.Want{Length: 10, Step: 10, From: 0, To: 30, Seats: 1}, nil, []busy.Room{{Seats: 1, Busy: taken(0, 20)}, {Seats: 0}, {Seats: -1}, {}}, api.Slot{At: 20, Room: 0}},
		{"a room comes ahead of those who should", api.Want{Length: 10, Step: 10, From: 0, To: 30, Should: []int{0}, Seats: 1}, []busy.Set{taken(20, 30)}, []busy.Room{{Seats: 1, Busy: taken(0, 20)}}, api.Slot{At: 20, Room: 0, Missing: []int{0}}},
		{"those who should come ahead of a better room", api.Want{Length: 10, Step: 10, From: 0, To: 30, Should: []int{0}, Seats: 1}, []busy.Set{taken(0, 20)}, []busy.Room{{Seats: 1, Busy: taken(20, 30)}, {Seats: 8}}, api.Slot{At: 20, Room: 1}},

		{"at the first moment", api.Want{Length: 1, Step: math.MaxInt, From: -api.MaxTime, To: api.MaxTime}, nil, nil, api.Slot{At: -api.MaxTime, Room: -1}},
		{"at the last moment", api.Want{Length: 1, Step: 1, From: api.MaxTime - 3, To: api.MaxTime, Must: []int{0}}, []busy.Set{taken(-1<<60, api.MaxTime-1)}, nil, api.Slot{At: api.MaxTime - 1, Room: -1}},
		{"as long as may be", api.Want{Length: api.MaxLength, Step: api.Daily, From: 0, To: api.MaxLength + api.Daily, Must: []int{0}}, []busy.Set{taken(0, 1)}, nil, api.Slot{At: api.Daily, Room: -1}},
	} {
		got, err := busy.Find(c.want, c.people, c.rooms)
		wantSlot(t, at("11.2: Find, %s", c.what), got, err, c.slot)
	}
}

func TestFindNone(t *testing.T) {
	always := taken(-1<<60, 1<<60)
	for what, c := range map[string]struct {
		want   api.Want
		people []busy.Set
		rooms  []busy.Room
	}{
		"too short":                          {api.Want{Length: 10, Step: 1, From: 0, To: 9}, nil, nil},
		"no time at all":                     {api.Want{Length: 1, Step: 1, From: 7, To: 7}, nil, nil},
		"somebody who must never can":        {api.Want{Length: 10, Step: 1, From: 0, To: 99, Must: []int{1, 0}}, []busy.Set{always, {}}, nil},
		"not both at once":                   {api.Want{Length: 10, Step: 10, From: 0, To: 40, Must: []int{0, 1}}, []busy.Set{taken(0, 20), taken(20, 40)}, nil},
		"not when meetings begin":            {api.Want{Length: 10, Step: 10, From: 0, To: 40, Must: []int{0}}, []busy.Set{taken(0, 5, 15, 25, 35, 40)}, nil},
		"no rooms":                           {api.Want{Length: 10, Step: 1, From: 0, To: 99, Seats: 1}, nil, nil},
		"no room with so many seats":         {api.Want{Length: 10, Step: 1, From: 0, To: 99, Seats: 5}, nil, []busy.Room{{Seats: 4}, {}}},
		"all rooms are taken":                {api.Want{Length: 10, Step: 1, From: 0, To: 99, Seats: 5}, nil, []busy.Room{{Seats: 5, Busy: always}, {Seats: 4}, {Seats: 9, Busy: always}}},
		"no room, when all can who must":     {api.Want{Length: 10, Step: 10, From: 0, To: 40, Must: []int{0}, Seats: 1}, []busy.Set{taken(0, 20)}, []busy.Room{{Seats: 5, Busy: taken(20, 40)}}},
		"a step too far":                     {api.Want{Length: 10, Step: 31, From: 0, To: 40, Must: []int{0}}, []busy.Set{taken(0, 1)}, nil},
		"as long as may be, and one less":    {api.Want{Length: api.MaxLength, Step: 1, From: 0, To: 9000, Must: []int{}}, nil, nil},
		"the second that follows is too far": {api.Want{Length: 10, Step: math.MaxInt, From: 0, To: 4000, Must: []int{0}}, []busy.Set{taken(9, 10)}, nil},
	} {
		got, err := busy.Find(c.want, c.people, c.rooms)
		wantError(t, at("11.2: Find, %s", what), got, err, api.ErrNone)
	}
}

// modelFind goes second by second.
func modelFind(w api.Want, people []busy.Set, rooms []busy.Room) (api.Slot, bool) {
	isFree := func(s busy.Set, at api.Instant) bool {
		for x := at; x < at+api.Instant(w.Length); x++ {
			if s.Has(x) {
				return false
			}
		}
		return true
	}
	var all []api.Slot
	for x := w.From; x+api.Instant(w.Length) <= w.To; x += api.Instant(w.Step) {
		slot := api.Slot{At: x, Room: -1}
		can := true
		for _, who := range w.Must {
			can = can && isFree(people[who], x)
		}
		for who := range people {
			if slices.Contains(w.Should, who) && !isFree(people[who], x) {
				slot.Missing = append(slot.Missing, who)
			}
		}
		for i := len(rooms) - 1; i >= 0; i-- {
			r := rooms[i]
			if r.Seats >= w.Seats && isFree(r.Busy, x) && (slot.Room < 0 || r.Seats <= rooms[slot.Room].Seats) {
				slot.Room = i
			}
		}
		if w.Seats == 0 {
			slot.Room = -1
		}
		if can && (slot.Room >= 0 || w.Seats == 0) {
			all = append(all, slot)
		}
	}
	if len(all) == 0 {
		return api.Slot{}, false
	}
	slices.SortStableFunc(all, func(a, b api.Slot) int { return len(a.Missing) - len(b.Missing) })
	return all[0], true
}

// drawnTaken is a set of a few spans.
func drawnTaken(r *rand.Rand) busy.Set {
	var ends []int
	for range r.Intn(5) {
		from := r.Intn(80) - 10
		ends = append(ends, from, from+r.Intn(15))
	}
	return taken(ends...)
}

// TestDrawnMeetings: the meeting that is found may be, and there is none better, and none as good sooner.
func TestDrawnMeetings(t *testing.T) {
	r := rand.New(rand.NewSource(1102))
	told := [2]int{}
	for range 20_000 {
		var people []busy.Set
		var rooms []busy.Room
		for range r.Intn(6) {
			people = append(people, drawnTaken(r))
		}
		for range r.Intn(4) {
			rooms = append(rooms, busy.Room{Seats: r.Intn(5), Busy: drawnTaken(r)})
		}
		w := api.Want{Length: 1 + r.Intn(9), Step: 1 + r.Intn(6), From: api.Instant(r.Intn(30) - 10), Seats: r.Intn(4)}
		w.To = w.From + api.Instant(r.Intn(60))
		for i, who := range r.Perm(len(people)) {
			if i%2 == r.Intn(3) {
				w.Must = append(w.Must, who)
			} else if r.Intn(4) > 0 {
				w.Should = append(w.Should, who)
			}
		}
		expected, is := modelFind(w, people, rooms)
		got, err := busy.Find(w, people, rooms)
		if !is {
			told[0]++
			wantError(t, at("11.2: Find(%+v)", w), got, err, api.ErrNone)
			continue
		}
		told[1]++
		wantSlot(t, at("11.2: Find(%+v)", w), got, err, expected)
	}
	if told[0] < 1000 || told[1] < 1000 {
		t.Errorf("none and some were found: %v", told)
	}
}

// TestFindIsFresh: what one is given is left alone, and what comes out is not kept.
func TestFindIsFresh(t *testing.T) {
	w := api.Want{Length: 10, Step: 10, From: 0, To: 20, Should: []int{2, 1, 0}, Seats: 1}
	people := []busy.Set{taken(0, 20), taken(0, 20), taken(0, 20)}
	rooms := []busy.Room{{Seats: 3}, {Seats: 2}, {Seats: 1, Busy: taken(0, 20)}}
	first, err := busy.Find(w, people, rooms)
	second, _ := busy.Find(w, people, rooms)
	expected := api.Slot{At: 0, Room: 1, Missing: []int{0, 1, 2}}
	wantSlot(t, at("11.2: Find"), first, err, expected)
	first.Missing[0] = 99
	_ = append(first.Missing, 98)
	wantSlot(t, at("P4: Find, once another answer was written into"), second, nil, expected)
	if !slices.Equal(w.Should, []int{2, 1, 0}) || rooms[0].Seats != 3 || rooms[2].Seats != 1 || !reflect.DeepEqual(people[0], taken(0, 20)) {
		t.Errorf("P4: what Find was given: %+v, %v, %v", w, people, rooms)
	}
}

// TestFindOfMany: many steps, people and rooms.
func TestFindOfMany(t *testing.T) {
	w := api.Want{Length: 3600, Step: 60, From: 0, To: 60 * api.MaxTimes, Seats: 10}
	var people []busy.Set
	var rooms []busy.Room
	for i := range 60 {
		var ends []int
		for x := range 1000 {
			ends = append(ends, x*7200+i, x*7200+3600+i)
		}
		people = append(people, taken(ends...))
		rooms = append(rooms, busy.Room{Seats: 10 + i, Busy: taken(0, 60*api.MaxTimes-3600)})
		w.Should = append(w.Should, i)
	}
	got, err := busy.Find(w, people, rooms)
	var all []int
	for i := range 60 {
		all = append(all, i)
	}
	wantSlot(t, at("11.2: Find"), got, err, api.Slot{At: 60*api.MaxTimes - 3600, Room: 0, Missing: all})
}
