package plan_test

import (
	"math"
	"testing"

	"almanac/api"
	"almanac/plan"
)

// Promise 12.1: Check.

const (
	most  = api.MaxLag
	kinds = api.StartEnd
)

// to is a link to a task.
func to(task int) api.Link { return api.Link{Task: task, Kind: api.EndStart} }

// linksTo are so many links to a task.
func linksTo(task, n int) []api.Link {
	l := make([]api.Link, n)
	for i := range l {
		l[i] = to(task)
	}
	return l
}

func TestCheck(t *testing.T) {
	for _, l := range [][]api.Task{
		nil,
		{},
		{{}},
		{{Length: most, NotBefore: most, Uses: []int{0, most, 0, 0, 0, 0, 0, most}}},
		{{}, {Links: linksTo(0, 60)}},
		{{Links: []api.Link{{Task: 1, Kind: api.EndStart, Lag: most}, {Task: 1, Kind: api.StartStart, Lag: -most}}}, {}},
		{{}, {Links: []api.Link{{Task: 0, Kind: api.EndEnd}, {Task: 0, Kind: api.StartEnd}, {Task: 0, Kind: api.EndEnd}}}},
		{{Links: linksTo(1, 1)}, {Links: linksTo(2, 1)}, {Links: linksTo(3, 1)}, {}},
		{{Links: []api.Link{to(1), to(2)}}, {Links: linksTo(3, 1)}, {Links: linksTo(3, 1)}, {}},
		make([]api.Task, 60),
	} {
		wantSaid(t, at("12.1: Check(%v)", l), plan.Check(l), api.OK)
	}
}

func TestCheckFaults(t *testing.T) {
	full := func(bad api.Task) []api.Task { return append(make([]api.Task, 59), bad) }
	for _, c := range []struct {
		l    []api.Task
		want api.Errno
	}{
		{make([]api.Task, 61), api.ErrLimit},
		{append(make([]api.Task, 60), api.Task{Length: -1}), api.ErrLimit},
		{full(api.Task{Length: -1}), api.ErrArg},
		{full(api.Task{Length: most + 1}), api.ErrArg},
		{full(api.Task{Length: math.MinInt}), api.ErrArg},
		{full(api.Task{Length: math.MaxInt}), api.ErrArg},
		{full(api.Task{NotBefore: -1}), api.ErrArg},
		{full(api.Task{NotBefore: most + 1}), api.ErrArg},
		{full(api.Task{Links: linksTo(0, 61)}), api.ErrArg},
		{full(api.Task{Uses: make([]int, 9)}), api.ErrArg},
		{full(api.Task{Uses: []int{0, -1}}), api.ErrArg},
		{full(api.Task{Uses: []int{0, most + 1}}), api.ErrArg},
		{full(api.Task{Links: linksTo(-1, 1)}), api.ErrArg},
		{full(api.Task{Links: linksTo(60, 1)}), api.ErrArg},
		{full(api.Task{Links: linksTo(math.MinInt, 1)}), api.ErrArg},
		{full(api.Task{Links: linksTo(math.MaxInt, 1)}), api.ErrArg},
		{full(api.Task{Links: []api.Link{{}}}), api.ErrArg},
		{full(api.Task{Links: []api.Link{{Kind: -1}}}), api.ErrArg},
		{full(api.Task{Links: []api.Link{{Kind: kinds + 1}}}), api.ErrArg},
		{full(api.Task{Links: []api.Link{{Kind: kinds, Lag: most + 1}}}), api.ErrArg},
		{full(api.Task{Links: []api.Link{{Kind: kinds, Lag: -most - 1}}}), api.ErrArg},
		{full(api.Task{Links: linksTo(59, 1)}), api.ErrCycle},
		{full(api.Task{Links: []api.Link{to(0), to(59)}}), api.ErrCycle},
		{[]api.Task{{Links: linksTo(1, 1)}, {Links: linksTo(0, 1)}}, api.ErrCycle},
		{[]api.Task{{}, {Links: linksTo(2, 1)}, {Links: linksTo(3, 1)}, {Links: []api.Link{to(0), to(1)}}}, api.ErrCycle},
		{[]api.Task{{Links: linksTo(1, 1)}, {Links: linksTo(2, 1)}, {Links: linksTo(1, 1)}}, api.ErrCycle},
		{[]api.Task{{Links: []api.Link{{Task: 1, Kind: api.StartStart, Lag: -5}}}, {Length: 5, Links: []api.Link{{Task: 0, Kind: api.EndEnd, Lag: -5}}}}, api.ErrCycle},
	} {
		wantSaid(t, at("12.1: Check(%v)", c.l), plan.Check(c.l), c.want)
		wantAllSay(t, c.l, c.want)
	}
}

// TestCheckOrder: of several faults the one that is told first.
func TestCheckOrder(t *testing.T) {
	for _, c := range []struct {
		l    []api.Task
		want api.Errno
	}{
		{[]api.Task{{Links: linksTo(0, 1)}, {Length: -1}}, api.ErrCycle},
		{[]api.Task{{Links: linksTo(0, 1), Length: -1}}, api.ErrArg},
		{[]api.Task{{Links: linksTo(0, 1), NotBefore: -1}}, api.ErrArg},
		{[]api.Task{{Links: linksTo(0, 1), Uses: make([]int, 9)}}, api.ErrArg},
		{[]api.Task{{Links: linksTo(0, 61)}}, api.ErrArg},
		{[]api.Task{{Links: linksTo(0, 1), Uses: []int{-1}}}, api.ErrCycle},
		{[]api.Task{{Links: []api.Link{to(0), to(1)}}}, api.ErrCycle},
		{[]api.Task{{Links: []api.Link{to(1), to(0)}}}, api.ErrArg},
		{[]api.Task{{Links: []api.Link{{Task: 0}}}}, api.ErrArg},
		{[]api.Task{{Links: []api.Link{{Task: 0, Kind: 1, Lag: most + 1}}}}, api.ErrArg},
		{[]api.Task{{Links: linksTo(1, 1)}, {Links: linksTo(0, 1)}, {Uses: []int{-1}}}, api.ErrArg},
		{[]api.Task{{Links: linksTo(1, 1)}, {Links: linksTo(0, 1)}, {Links: linksTo(2, 1)}}, api.ErrCycle},
	} {
		wantSaid(t, at("12.1: Check(%v)", c.l), plan.Check(c.l), c.want)
		wantAllSay(t, c.l, c.want)
	}
}
