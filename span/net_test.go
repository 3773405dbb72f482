package span_test

import (
	"math/rand"
	"testing"

	"almanac/api"
	"almanac/span"
)

// fault is a net that can't be, and what Check says of it.
type fault struct {
	net  [][]api.Set
	want api.Errno
}

// faults are nets that can't be, of all kinds.
func faults() []fault {
	all := api.AnyWay
	l := []fault{
		{nil, api.ErrLimit},
		{[][]api.Set{}, api.ErrLimit},
		{loose(api.MaxSpans + 1), api.ErrLimit},
		{loose(20), api.ErrLimit},
		{make([][]api.Set, api.MaxSpans+1), api.ErrLimit},
		{[][]api.Set{{}}, api.ErrForm},
		{[][]api.Set{nil}, api.ErrForm},
		{[][]api.Set{{all, all}}, api.ErrForm},
		{make([][]api.Set, api.MaxSpans), api.ErrForm},
		{[][]api.Set{{all, all}, {all}}, api.ErrForm},
		{[][]api.Set{{all, all}, {all, all, all}}, api.ErrForm},
		{[][]api.Set{{all}, {all, all}}, api.ErrForm},
		// Row by row; in a row how many there are comes first.
		{[][]api.Set{{all, -1}, {all}}, api.ErrArg},
		{[][]api.Set{{all}, {all, -1}}, api.ErrForm},
		{[][]api.Set{{-1}, {all, all}}, api.ErrForm},
		{[][]api.Set{{-1, all, all}, {all, all}}, api.ErrForm},
		{[][]api.Set{{0, 0}, {0, -1}}, api.ErrArg},
	}
	for size := 1; size <= api.MaxSpans; size++ {
		for i := range size * size {
			net := loose(size)
			net[i/size][i%size] = noSets[i%len(noSets)]
			l = append(l, fault{net, api.ErrArg})
		}
	}
	for _, s := range noSets {
		l = append(l, fault{[][]api.Set{{s}}, api.ErrArg})
	}
	return l
}

// Promise 4.3.

func TestCheck(t *testing.T) {
	for size := 1; size <= api.MaxSpans; size++ {
		if err := span.Check(loose(size)); err != nil {
			t.Errorf("Check of %d spans of which nothing is said: %v", size, err)
		}
	}
	for _, net := range [][][]api.Set{{{0}}, {{1}}, {{0, 0}, {0, 0}}, {{1, 2}, {3, 4}}} {
		if err := span.Check(net); err != nil {
			t.Errorf("Check(%v): %v", net, err)
		}
	}
}

func TestCheckComesFirst(t *testing.T) {
	for _, f := range faults() {
		if err := span.Check(f.net); err != f.want {
			t.Errorf("Check(%v): %v; error %d is wanted", f.net, err, f.want)
		}
		closed, err := span.Close(f.net)
		wantNil(t, at("Close(%v)", f.net), closed, err, f.want)
		solved, err := span.Solve(f.net)
		wantNil(t, at("Solve(%v)", f.net), solved, err, f.want)
		for _, l := range [][]api.Span{nil, {{From: 0, To: 1}}, {{From: 1, To: 0}, {}}, make([]api.Span, len(f.net))} {
			got, err := span.Holds(f.net, l)
			wantError(t, at("Holds(%v, %v)", f.net, l), got, err, f.want)
		}
	}
}

func TestHolds(t *testing.T) {
	meets := loose(2)
	say(meets, 0, 1, api.Meets, api.Overlaps)
	oneSided := loose(2)
	oneSided[1][0] = set(api.After)
	notItself := loose(2)
	notItself[1][1] = api.AnyWay &^ set(api.Equal)
	nothing := loose(2)
	nothing[0][1] = 0
	for _, c := range []struct {
		net  [][]api.Set
		l    []api.Span
		want bool
	}{
		{meets, []api.Span{{From: 1, To: 2}, {From: 2, To: 3}}, true},
		{meets, []api.Span{{From: 1, To: 3}, {From: 2, To: 4}}, true},
		{meets, []api.Span{{From: 1, To: 2}, {From: 3, To: 4}}, false},
		{meets, []api.Span{{From: 2, To: 3}, {From: 1, To: 2}}, false},
		{meets, []api.Span{{From: -1 << 63, To: 0}, {From: 0, To: 1<<63 - 1}}, true},
		{loose(2), []api.Span{{From: 7, To: 9}, {From: 7, To: 9}}, true},
		{oneSided, []api.Span{{From: 1, To: 2}, {From: 3, To: 4}}, true},
		{oneSided, []api.Span{{From: 1, To: 2}, {From: 2, To: 3}}, false},
		{notItself, []api.Span{{From: 1, To: 2}, {From: 3, To: 4}}, false},
		{nothing, []api.Span{{From: 1, To: 2}, {From: 3, To: 4}}, false},
		{[][]api.Set{{set(api.Equal)}}, []api.Span{{From: 1, To: 2}}, true},
		{[][]api.Set{{set(api.Before)}}, []api.Span{{From: 1, To: 2}}, false},
	} {
		got, err := span.Holds(c.net, c.l)
		wantValue(t, at("Holds(%v, %v)", c.net, c.l), got, err, c.want)
	}
}

func TestHoldsEachToEach(t *testing.T) {
	r := rand.New(rand.NewSource(43))
	held := 0
	for range 5000 {
		size := 1 + r.Intn(api.MaxSpans)
		net := drawnAround(r, size, 25)
		var l []api.Span
		for range size {
			from := r.Intn(5)
			l = append(l, api.Span{From: from, To: from + 1 + r.Intn(4)})
		}
		want := modelHolds(net, l)
		got, err := span.Holds(net, l)
		wantValue(t, at("Holds(%v, %v)", net, l), got, err, want)
		if want {
			held++
		}
	}
	if held < 100 || held > 4900 {
		t.Errorf("%d of 5000 drawn nets hold: too few of one kind to tell anything", held)
	}
}

func TestHoldsWrong(t *testing.T) {
	one, good := api.Span{From: 1, To: 2}, loose(2)
	for _, l := range [][]api.Span{nil, {}, {one}, {one, one, one}, {{}}, {one, one, {}}} {
		got, err := span.Holds(good, l)
		wantError(t, at("Holds(%v, %v)", good, l), got, err, api.ErrForm)
	}
	never := loose(2)
	never[0][0] = 0
	for _, e := range empties {
		for _, l := range [][]api.Span{{one, e}, {e, one}, {e, e}} {
			for _, net := range [][][]api.Set{good, never} {
				got, err := span.Holds(net, l)
				wantError(t, at("Holds(%v, %v)", net, l), got, err, api.ErrEmpty)
			}
		}
	}
}
