package busy_test

import (
	"math"
	"math/rand"
	"reflect"
	"testing"

	"almanac/api"
	"almanac/book"
	"almanac/busy"
)

// Promises 11.1 and 11.2: Of and Check.

// bookOf has these events.
func bookOf(t *testing.T, events ...api.Event) *book.Book {
	t.Helper()
	b := book.New()
	wantSaid(t, at("10.1: SetZone"), b.SetZone("E", "era +01:00 -"), api.OK)
	for _, e := range events {
		wantSaid(t, at("10.2: Put(%+v)", e), b.Put(e), api.OK)
	}
	return b
}

func TestOf(t *testing.T) {
	daily := api.Rule{Cal: api.Gregorian, Freq: api.EachDay, Every: 1, First: 1}
	b := bookOf(t,
		api.Event{Uid: "a", Start: 1000, Length: 100},
		api.Event{Uid: "b", Start: 1050, Length: 100},
		api.Event{Uid: "meets", Start: 1150, Length: 10},
		api.Event{Uid: "free", Start: 1155, Length: 1000, Free: true},
		api.Event{Uid: "point", Start: 1500},
		api.Event{Uid: "zone", Zone: "E", Start: 5600, Length: 10},
		api.Event{Uid: "daily", Start: 86400 * 2, Length: 50, Repeats: true, Rule: daily, Others: []api.Other{{At: 86400 * 3, Gone: true}, {At: 86400 * 4, Start: 86400 * 2, Length: 60}}},
	)
	for _, c := range []struct {
		from, to api.Instant
		ends     []int
	}{
		{0, 1800, []int{1000, 1160}},
		{0, 5000, []int{1000, 1160, 2000, 2010}},
		{1010, 1100, []int{1010, 1100}},
		{1000, 1160, []int{1000, 1160}},
		{999, 1161, []int{1000, 1160}},
		{1159, 1160, []int{1159, 1160}},
		{1160, 1700, nil},
		{1155, 1155, nil},
		{1500, 1501, nil},
		{900, 1000, nil},
		{86400, 86400 * 6, []int{86400 * 2, 86400*2 + 60, 86400 * 5, 86400*5 + 50}},
		{86400*5 + 20, 86400*5 + 30, []int{86400*5 + 20, 86400*5 + 30}},
		{-api.MaxTime, -api.MaxTime, nil},
		{api.MaxTime, api.MaxTime, nil},
	} {
		got, err := busy.Of(b, c.from, c.to)
		wantSpans(t, at("11.1: Of(%d, %d)", c.from, c.to), got, err, c.ends...)
	}
	got, err := busy.Of(book.New(), 0, 1000)
	wantSpans(t, at("11.1: Of a book that has no events"), got, err)
}

// TestOfLong: what begins ahead of a window, and ends behind it.
func TestOfLong(t *testing.T) {
	b := bookOf(t, api.Event{Uid: "a", Start: 0, Length: api.MaxLength})
	const most = api.MaxWindow
	for _, c := range []struct {
		from, to api.Instant
		ends     []int
	}{{-1, 1, []int{0, 1}}, {5, 6, []int{5, 6}}, {5, 5 + most, []int{5, most}}, {most - 1, most - 1 + most, []int{most - 1, most}}, {most, most + most, nil}, {-most, 0, nil}} {
		got, err := busy.Of(b, c.from, c.to)
		wantSpans(t, at("11.1: Of(%d, %d)", c.from, c.to), got, err, c.ends...)
	}
}

func TestOfFaults(t *testing.T) {
	b := bookOf(t, api.Event{Uid: "a", Start: 5, Length: 5})
	for _, c := range []struct {
		from, to api.Instant
		want     api.Errno
	}{
		{1, 0, api.ErrRange}, {0, api.MaxWindow + 1, api.ErrLimit}, {-api.MaxTime - 1, 0, api.ErrRange}, {api.MaxTime, api.MaxTime + 1, api.ErrRange},
		{math.MinInt, math.MaxInt, api.ErrRange}, {-api.MaxTime, api.MaxTime, api.ErrLimit},
	} {
		got, err := busy.Of(b, c.from, c.to)
		wantError(t, at("11.1: Of(%d, %d)", c.from, c.to), got, err, c.want)
	}
}

// TestOfDrawnBooks: a moment is of the set, if it is of the window, and of an occasion that is not free.
func TestOfDrawnBooks(t *testing.T) {
	r := rand.New(rand.NewSource(1101))
	for range 300 {
		var events []api.Event
		for i := range r.Intn(8) {
			e := api.Event{Uid: string(rune('a' + i)), Start: api.Local(r.Intn(60)), Length: r.Intn(12), Free: r.Intn(4) == 0}
			for x := range r.Intn(3) {
				e.In = append(e.In, api.Local(70+x*10+r.Intn(10)))
			}
			events = append(events, e)
		}
		b := bookOf(t, events...)
		from := api.Instant(r.Intn(60) - 10)
		to := from + api.Instant(r.Intn(60))
		got, err := busy.Of(b, from, to)
		if err != nil {
			t.Errorf("11.1: Of(%d, %d): %v", from, to, err)
		}
		for x := api.Instant(-20); x < 130; x++ {
			want := false
			for _, e := range events {
				for _, start := range append(e.In, e.Start) {
					want = want || !e.Free && x >= from && x < to && int(x) >= int(start) && int(x) < int(start)+e.Length
				}
			}
			if got.Has(x) != want {
				t.Errorf("11.1: Of(%d, %d) of %+v: %v, which is wrong at %d", from, to, events, got.Spans(), x)
			}
		}
	}
}

// want is a meeting that may be looked for among four people, changed.
func want(change func(w *api.Want)) api.Want {
	w := api.Want{Length: 60, Step: 30, From: 0, To: 1000, Must: []int{0, 2}, Should: []int{3}, Seats: 2}
	change(&w)
	return w
}

func TestCheck(t *testing.T) {
	for _, c := range []struct {
		what   string
		want   api.Errno
		change func(w *api.Want)
	}{
		{"as it is", api.OK, func(w *api.Want) {}},
		{"Length 1", api.OK, func(w *api.Want) { w.Length = 1 }},
		{"Length 0", api.ErrArg, func(w *api.Want) { w.Length = 0 }},
		{"Length below 0", api.ErrArg, func(w *api.Want) { w.Length = math.MinInt }},
		{"Length at its most", api.OK, func(w *api.Want) { w.Length = 400 * 86400 }},
		{"Length above its most", api.ErrArg, func(w *api.Want) { w.Length = 400*86400 + 1 }},
		{"Step 1", api.OK, func(w *api.Want) { w.Step = 1 }},
		{"Step 0", api.ErrArg, func(w *api.Want) { w.Step = 0 }},
		{"Step below 0", api.ErrArg, func(w *api.Want) { w.Step = -1 }},
		{"Step far off", api.OK, func(w *api.Want) { w.Step = math.MaxInt }},
		{"no seats", api.OK, func(w *api.Want) { w.Seats = 0 }},
		{"many seats", api.OK, func(w *api.Want) { w.Seats = math.MaxInt }},
		{"seats below 0", api.ErrArg, func(w *api.Want) { w.Seats = -1 }},
		{"From at To", api.OK, func(w *api.Want) { w.From = w.To }},
		{"From behind To", api.ErrRange, func(w *api.Want) { w.From = w.To + 1 }},
		{"From at the first moment", api.OK, func(w *api.Want) { w.From, w.To = -api.MaxTime, -api.MaxTime }},
		{"From ahead of the first moment", api.ErrRange, func(w *api.Want) { w.From, w.To = -api.MaxTime-1, -api.MaxTime }},
		{"To at the last moment", api.OK, func(w *api.Want) { w.From, w.To = api.MaxTime, api.MaxTime }},
		{"To behind the last moment", api.ErrRange, func(w *api.Want) { w.From, w.To = api.MaxTime, api.MaxTime+1 }},
		{"all numbers", api.ErrRange, func(w *api.Want) { w.From, w.To = math.MinInt, math.MaxInt }},
		{"all numbers, turned round", api.ErrRange, func(w *api.Want) { w.From, w.To = math.MaxInt, math.MinInt }},
		{"all moments, in few steps", api.OK, func(w *api.Want) { w.From, w.To, w.Step = -api.MaxTime, api.MaxTime, 2*api.MaxTime/10_000 }},
		{"10,000 steps", api.OK, func(w *api.Want) { w.To = 30 * 10_000 }},
		{"10,000 steps, and not all of another one", api.OK, func(w *api.Want) { w.To = 30*10_001 - 1 }},
		{"10,001 steps", api.ErrLimit, func(w *api.Want) { w.To = 30 * 10_001 }},
		{"too many steps of 1", api.ErrLimit, func(w *api.Want) { w.Step, w.From, w.To = 1, -api.MaxTime, api.MaxTime }},
		{"nobody", api.OK, func(w *api.Want) { w.Must, w.Should = nil, nil }},
		{"all", api.OK, func(w *api.Want) { w.Must, w.Should = []int{3, 1}, []int{2, 0} }},
		{"somebody of Must who is none", api.ErrArg, func(w *api.Want) { w.Must = []int{0, 4} }},
		{"somebody of Must below 0", api.ErrArg, func(w *api.Want) { w.Must = []int{-1} }},
		{"somebody of Should who is none", api.ErrArg, func(w *api.Want) { w.Should = []int{math.MaxInt} }},
		{"somebody of Should below 0", api.ErrArg, func(w *api.Want) { w.Should = []int{1, math.MinInt} }},
		{"somebody twice in Must", api.ErrArg, func(w *api.Want) { w.Must = []int{1, 0, 1} }},
		{"somebody twice in Should", api.ErrArg, func(w *api.Want) { w.Should = []int{1, 1} }},
		{"somebody in both", api.ErrArg, func(w *api.Want) { w.Should = []int{1, 2} }},

		// Of several faults the one told first.
		{"Length and From", api.ErrArg, func(w *api.Want) { w.Length, w.From = 0, w.To+1 }},
		{"Seats and too many steps", api.ErrArg, func(w *api.Want) { w.Seats, w.To = -1, 30*10_001 }},
		{"From and too many steps", api.ErrRange, func(w *api.Want) { w.From, w.Step = -api.MaxTime-1, 1 }},
		{"too many steps and somebody twice", api.ErrLimit, func(w *api.Want) { w.To, w.Must = 30*10_001, []int{0, 0} }},
		{"From and somebody twice", api.ErrRange, func(w *api.Want) { w.From, w.Must = w.To+1, []int{0, 0} }},
	} {
		w := want(c.change)
		wantSaid(t, at("11.2: Check, %s", c.what), busy.Check(w, 4), c.want)
		slot, err := busy.Find(w, make([]busy.Set, 4), []busy.Room{{Seats: math.MaxInt}})
		if c.want != api.OK {
			wantError(t, at("11.2: Find, %s", c.what), slot, err, c.want)
		} else if err != nil && err != api.ErrNone {
			t.Errorf("11.2: Find, %s: %v", c.what, err)
		}
	}
}

// TestCheckPeople: how many people there are is what there is of them.
func TestCheckPeople(t *testing.T) {
	w := want(func(w *api.Want) {})
	nobody := want(func(w *api.Want) { w.Must, w.Should = nil, nil })
	for people, expected := range map[int]api.Errno{4: api.OK, 5: api.OK, math.MaxInt: api.OK, 3: api.ErrArg, 0: api.ErrArg, -1: api.ErrArg, math.MinInt: api.ErrArg} {
		wantSaid(t, at("11.2: Check among %d", people), busy.Check(w, people), expected)
		wantSaid(t, at("11.2: Check of nobody among %d", people), busy.Check(nobody, people), api.OK)
	}
	slot, err := busy.Find(w, make([]busy.Set, 3), []busy.Room{{Seats: 9}})
	wantError(t, at("11.2: Find among 3"), slot, err, api.ErrArg)
	slot, err = busy.Find(w, nil, nil)
	wantError(t, at("11.2: Find among none"), slot, err, api.ErrArg)
	if expected := want(func(w *api.Want) {}); !reflect.DeepEqual(w, expected) {
		t.Errorf("P4: the meeting that was looked for: %+v; it was %+v", w, expected)
	}
}
