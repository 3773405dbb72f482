package span_test

import (
	"math/rand"
	"testing"
	"time"

	"almanac/api"
	"almanac/span"
)

// Promise 4.4: Solve.

// wantSpans says whether Solve tells these spans of a net.
func wantSpans(t *testing.T, net [][]api.Set, want []api.Span) {
	t.Helper()
	got, err := span.Solve(net)
	if err != nil || show(got) != show(want) {
		t.Errorf("Solve(%v): %v, %v; %v is wanted", net, got, err, want)
	}
}

// chain is a net in which each span lies to the next one in this way.
func chain(size, way int) [][]api.Set {
	net := loose(size)
	for i := range size - 1 {
		say(net, i, i+1, way)
	}
	return net
}

func TestSolve(t *testing.T) {
	wantSpans(t, [][]api.Set{{64}}, []api.Span{{From: 0, To: 1}})
	for size := 1; size <= api.MaxSpans; size++ {
		var before, meets, contains, during, same []api.Span
		for i := range size {
			before = append(before, api.Span{From: 2 * i, To: 2*i + 1})
			meets = append(meets, api.Span{From: i, To: i + 1})
			contains = append(contains, api.Span{From: i, To: 2*size - 1 - i})
			during = append(during, api.Span{From: size - 1 - i, To: size + i})
			same = append(same, api.Span{From: 0, To: 1})
		}
		wantSpans(t, loose(size), same)
		wantSpans(t, chain(size, api.Before), before)
		wantSpans(t, chain(size, api.Meets), meets)
		wantSpans(t, chain(size, api.Contains), contains)
		wantSpans(t, chain(size, api.During), during)
	}
}

func TestSolveTellsTheFirst(t *testing.T) {
	from := loose(2) // the first one's From counts ahead of its To
	say(from, 0, 1, api.Contains, api.After)
	wantSpans(t, from, []api.Span{{From: 0, To: 3}, {From: 1, To: 2}})
	to := loose(2) // its To ahead of the other's From
	say(to, 0, 1, api.StartedBy, api.Before)
	wantSpans(t, to, []api.Span{{From: 0, To: 1}, {From: 2, To: 3}})
	other := loose(2) // the other's From ahead of its To
	say(other, 0, 1, api.Starts, api.Before)
	wantSpans(t, other, []api.Span{{From: 0, To: 1}, {From: 0, To: 2}})
}

// TestSolveIsTheFirstThatHolds holds Solve against all lists that there are.
func TestSolveIsTheFirstThatHolds(t *testing.T) {
	r := rand.New(rand.NewSource(47))
	told := map[bool]int{}
	for n := range 400 {
		size, more := 1+r.Intn(api.MaxSpans), r.Intn(6)
		net := drawn(r, size, more)
		if n%4 != 0 {
			net = drawnAround(r, size, more)
		}
		want := modelSolve(net)
		told[want != nil]++
		if want == nil {
			got, err := span.Solve(net)
			wantNil(t, at("Solve(%v)", net), got, err, api.ErrNone)
			continue
		}
		wantSpans(t, net, want)
		held, err := span.Holds(net, want)
		wantValue(t, at("Holds(%v, %v)", net, want), held, err, true)
	}
	if told[true] < 50 || told[false] < 50 {
		t.Errorf("nets that are solved, and that are not: %v: too few of one kind to tell anything", told)
	}
}

func TestSolveAsksBothWays(t *testing.T) {
	net := loose(2)
	net[0][1] = set(api.Before, api.Starts, api.After)
	net[1][0] = set(api.Before, api.After)
	wantSpans(t, net, []api.Span{{From: 0, To: 1}, {From: 2, To: 3}})
	net[1][0] = set(api.Before)
	wantSpans(t, net, []api.Span{{From: 2, To: 3}, {From: 0, To: 1}})
}

// unsolved is a net that Close lets be, but no spans lie so.
func unsolved() [][]api.Set {
	net := loose(4)
	say(net, 0, 1, api.Meets, api.StartedBy)
	say(net, 0, 2, api.FinishedBy, api.StartedBy)
	say(net, 0, 3, api.Before, api.Overlaps, api.Finishes)
	say(net, 1, 2, api.Before, api.After)
	say(net, 1, 3, api.During, api.StartedBy)
	say(net, 2, 3, api.During, api.StartedBy)
	return net
}

func TestSolveNone(t *testing.T) {
	net := unsolved()
	if closed, err := span.Close(net); err != nil {
		t.Errorf("Close(%v): %v, %v; a net is wanted", net, closed, err)
	}
	// With ends of any kind, too: four spans have eight of them at most.
	eachHolding(net, 9, func(l []api.Span) bool {
		t.Errorf("the spans %v lie as %v says", l, net)
		return true
	})
	got, err := span.Solve(net)
	wantNil(t, at("Solve(%v)", net), got, err, api.ErrNone)
}

// TestSolveEndsSoon solves nets of six spans of which a search that goes on span by span, and looks no farther, has very many beginnings.
func TestSolveEndsSoon(t *testing.T) {
	start := time.Now()
	behind := loose(api.MaxSpans) // the last four can't be, whatever the first two are
	for i, row := range unsolved() {
		copy(behind[2+i][2:], row)
	}
	got, err := span.Solve(behind)
	wantNil(t, at("Solve(%v)", behind), got, err, api.ErrNone)
	for _, net := range [][][]api.Set{
		{
			{64, 8183, 8061, 7863, 5373, 8127}, {7679, 64, 6118, 3911, 7992, 123}, {6111, 3325, 64, 8108, 4748, 4060},
			{7599, 7262, 1727, 64, 4095, 6913}, {6117, 927, 1577, 8190, 64, 4094}, {8127, 7104, 1918, 4123, 4094, 64},
		},
		{
			{64, 8191, 8191, 8127, 8191, 8191}, {8191, 64, 6348, 4039, 5375, 7936}, {8191, 1635, 64, 8056, 967, 3324},
			{8127, 7294, 991, 64, 7291, 7935}, {8191, 8165, 7288, 7111, 64, 1023}, {8191, 31, 2022, 8175, 8184, 64},
		},
	} {
		if _, err := span.Close(net); err != nil {
			t.Errorf("Close(%v): %v", net, err)
		}
		got, err := span.Solve(net)
		wantNil(t, at("Solve(%v)", net), got, err, api.ErrNone)
	}
	wantSpans(t, [][]api.Set{
		{64, 7167, 7167, 7167, 3311, 7728}, {8187, 64, 8189, 3583, 5245, 6771}, {8187, 6143, 64, 8127, 6079, 8033},
		{8187, 8182, 8127, 64, 6142, 8165}, {7910, 6085, 8125, 4093, 64, 289}, {399, 6603, 4319, 5375, 4240, 64},
	}, []api.Span{{From: 1, To: 2}, {From: 1, To: 2}, {From: 0, To: 2}, {From: 0, To: 3}, {From: 1, To: 2}, {From: 0, To: 2}})
	if took := time.Since(start); took > 20*time.Second {
		t.Errorf("four nets took %v", took)
	}
}

func TestSolveTellsAnew(t *testing.T) {
	net := chain(3, api.Meets)
	first, err := span.Solve(net)
	if err != nil {
		t.Fatal(err)
	}
	wanted := show(first)
	clear(first)
	second, err := span.Solve(net)
	if err != nil || show(second) != wanted {
		t.Errorf("Solve(%v): %v, %v; ahead of that it told %s", net, second, err, wanted)
	}
}
