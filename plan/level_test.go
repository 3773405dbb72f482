package plan_test

import (
	"math"
	"math/rand"
	"testing"

	"almanac/api"
	"almanac/plan"
)

// Promise 12.4: Level.

func TestLevel(t *testing.T) {
	uses := func(length int, uses ...int) api.Task { return api.Task{Length: length, Uses: uses} }
	for _, c := range []struct {
		what string
		l    []api.Task
		have []int
		want []api.Span
	}{
		{"nothing", nil, nil, nil},
		{"none is used", []api.Task{uses(5), uses(3, 0, 0)}, nil, spansOf(0, 5, 0, 3)},
		{"one at a time", []api.Task{uses(5, 1), uses(5, 1)}, []int{1}, spansOf(0, 5, 5, 10)},
		{"two at a time", []api.Task{uses(5, 1), uses(5, 1), uses(5, 1)}, []int{2}, spansOf(0, 5, 0, 5, 5, 10)},
		{"of two resources", []api.Task{uses(5, 1, 0), uses(5, 0, 1)}, []int{1, 1}, spansOf(0, 5, 0, 5)},
		{"of the second", []api.Task{uses(5, 1, 1), uses(5, 0, 1)}, []int{2, 1}, spansOf(0, 5, 5, 10)},
		{"the longest must begin first", []api.Task{uses(2, 1), uses(5, 1)}, []int{1}, spansOf(5, 7, 0, 5)},
		{"two small ones go on", []api.Task{uses(5, 1), uses(4, 1), uses(3, 2)}, []int{2}, spansOf(0, 5, 0, 4, 5, 8)},
		{"it waits for the last of both", []api.Task{uses(4, 1), uses(5, 1), uses(3, 2)}, []int{2}, spansOf(0, 4, 0, 5, 5, 8)},
		{"a gap is not enough", []api.Task{uses(9, 1), {Length: 2, NotBefore: 10, Uses: []int{1}}, uses(2, 1)}, []int{1}, spansOf(0, 9, 10, 12, 12, 14)},
		{"a gap is enough", []api.Task{uses(9, 1), {Length: 2, NotBefore: 11, Uses: []int{1}}, uses(2, 1)}, []int{1}, spansOf(0, 9, 11, 13, 9, 11)},
		{"its links", []api.Task{uses(5, 1), {Length: 2, Uses: []int{1}, Links: linksTo(0, 1)}, uses(1, 1)}, []int{1}, spansOf(0, 5, 5, 7, 7, 8)},
		{"one that must begin sooner", []api.Task{uses(5, 1), {Length: 2, Uses: []int{1}, Links: linksTo(0, 1)}, uses(6, 1)}, []int{1}, spansOf(0, 5, 11, 13, 5, 11)},
		{"what hangs on none goes on", []api.Task{uses(5, 1), behind(2, api.Link{Kind: api.EndStart, Lag: 3}), uses(6, 1)}, []int{1}, spansOf(0, 5, 8, 10, 5, 11)},
		{"length 0 uses nothing", []api.Task{uses(5, 1), uses(0, 1), behind(0, api.Link{Kind: api.StartStart, Lag: 2})}, []int{1}, spansOf(0, 5, 0, 0, 2, 2)},
		{"length 0 within", []api.Task{{NotBefore: 2, Uses: []int{1}}, uses(5, 1)}, []int{1}, spansOf(2, 2, 0, 5)},
		{"of several the first", []api.Task{uses(3, 1), uses(3, 1), uses(3, 1)}, []int{1}, spansOf(0, 3, 3, 6, 6, 9)},
		{"eight", []api.Task{uses(3, 0, 0, 0, 0, 0, 0, 0, 5), uses(2, 0, 0, 0, 0, 0, 0, 0, 5)}, []int{0, 0, 0, 0, 0, 0, 0, 9}, spansOf(0, 3, 3, 5)},
		{"as much as there is", []api.Task{uses(3, most), uses(3, most)}, []int{2 * most}, spansOf(0, 3, 0, 3)},
		{"one less", []api.Task{uses(3, most), uses(3, most)}, []int{2*most - 1}, spansOf(0, 3, 3, 6)},
		{"very much", []api.Task{uses(3, most), uses(3, most)}, []int{math.MaxInt}, spansOf(0, 3, 0, 3)},
	} {
		got, err := plan.Level(c.l, c.have)
		wantValue(t, at("12.4: %s: Level(%v, %v)", c.what, c.l, c.have), got, err, c.want)
	}
}

func TestLevelFaults(t *testing.T) {
	one := []api.Task{{Length: 1, Uses: []int{1}}}
	for _, c := range []struct {
		l    []api.Task
		have []int
		want api.Errno
	}{
		{nil, make([]int, 9), api.ErrArg},
		{nil, []int{-1}, api.ErrArg},
		{one, []int{5, -1}, api.ErrArg},
		{one, []int{0, -1}, api.ErrArg},
		{one, []int{math.MinInt}, api.ErrArg},
		{one, make([]int, 9), api.ErrArg},
		{one, nil, api.ErrClash},
		{one, []int{0}, api.ErrClash},
		{one, []int{0, 1}, api.ErrClash},
		{[]api.Task{{Uses: []int{1}}}, []int{0}, api.ErrClash},
		{[]api.Task{{}, {Length: 5, Uses: []int{0, 0, 3}}}, []int{1, 1, 2}, api.ErrClash},
		{[]api.Task{{}, {Length: 5, Uses: []int{0, 0, 3}}}, []int{9, 9}, api.ErrClash},
		{[]api.Task{{Uses: []int{0, 1}}}, []int{9}, api.ErrClash},
	} {
		got, err := plan.Level(c.l, c.have)
		wantError(t, at("12.4: Level(%v, %v)", c.l, c.have), got, err, c.want)
	}
	got, err := plan.Level(one, []int{1, 0, 0, 0, 0, 0, 0, 0})
	wantValue(t, at("12.4: eight resources"), got, err, spansOf(0, 1))
}

// TestModelLevel holds Level against a model that goes second by second.
func TestModelLevel(t *testing.T) {
	r := rand.New(rand.NewSource(124))
	placed := 0
	for range 4000 {
		l := drawnPlan(r, r.Intn(9), 6, 4, 3)
		have := []int{r.Intn(4) + 2, r.Intn(4) + 2, r.Intn(4) + 2}[:r.Intn(4)]
		got, err := plan.Level(l, have)
		if err != nil {
			continue
		}
		placed++
		end, _ := plan.End(l)
		last, _ := plan.Late(l, end)
		wantValue(t, at("12.4: Level(%v, %v)", l, have), got, err, modelLevel(l, have, last))
		if !fit(l, got) {
			t.Errorf("12.4: Level(%v, %v): %v does not fit", l, have, got)
		}
	}
	if placed < 1000 {
		t.Errorf("12.4: only %d plans were placed", placed)
	}
}

// TestLevelGreatest: sixty tasks that use all there is stand one behind the other.
func TestLevelGreatest(t *testing.T) {
	l := make([]api.Task, 60)
	for i := range l {
		l[i] = api.Task{Length: most, Uses: []int{most}}
	}
	got, err := plan.Level(l, []int{2*most - 1})
	if err != nil {
		t.Fatalf("12.4: %v", err)
	}
	for i, s := range got {
		if s != (api.Span{From: i * most, To: (i + 1) * most}) {
			t.Errorf("12.4: %d is at %v", i, s)
		}
	}
}
