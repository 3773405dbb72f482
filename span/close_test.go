package span_test

import (
	"math/rand"
	"testing"

	"almanac/api"
	"almanac/span"
)

// Promise 4.4: Close.

// wantNet says whether Close tells a net that may be, and that net.
func wantNet(t *testing.T, net, want [][]api.Set) {
	t.Helper()
	got, err := span.Close(net)
	if err != nil || show(got) != show(want) {
		t.Errorf("Close(%v): %v, %v; %v is wanted", net, got, err, want)
	}
}

func TestClose(t *testing.T) {
	wantNet(t, [][]api.Set{{api.AnyWay}}, [][]api.Set{{64}})
	wantNet(t, loose(2), [][]api.Set{{64, api.AnyWay}, {api.AnyWay, 64}})

	follows := loose(3)
	say(follows, 0, 1, api.Overlaps)
	say(follows, 1, 2, api.During)
	wantNet(t, follows, [][]api.Set{
		{64, set(api.Overlaps), 28},
		{set(api.OverlappedBy), 64, set(api.During)},
		{set(api.OverlappedBy, api.StartedBy, api.Contains), set(api.Contains), 64},
	})

	oneSided := loose(2)
	oneSided[0][1] = set(api.Before, api.Meets, api.During)
	oneSided[1][0] = set(api.After, api.Contains, api.Equal)
	wantNet(t, oneSided, [][]api.Set{{64, set(api.Before, api.During)}, {set(api.After, api.Contains), 64}})
}

func TestCloseGoesOnUntilNothingIsLeftOut(t *testing.T) {
	// Only the last row and the first one say anything of the spans between: what follows goes all the way.
	net, want := loose(api.MaxSpans), loose(api.MaxSpans)
	for i := range api.MaxSpans - 1 {
		say(net, i+1, i, api.Before, api.Meets)
	}
	say(net, 0, api.MaxSpans-1, api.MetBy, api.After)
	for i := range api.MaxSpans {
		want[i][i] = 64
		for k := range i {
			say(want, i, k, api.Before)
		}
		if i > 0 {
			say(want, i, i-1, api.Before, api.Meets)
		}
	}
	say(want, api.MaxSpans-1, 0, api.Before)
	wantNet(t, net, want)
}

func TestCloseNone(t *testing.T) {
	notItself := loose(3)
	notItself[2][2] = api.AnyWay &^ set(api.Equal)
	nothing := loose(3)
	nothing[2][0] = 0
	oneSided := loose(2)
	oneSided[0][1], oneSided[1][0] = set(api.Before, api.Starts), set(api.Before, api.Starts)
	round := loose(3)
	say(round, 0, 1, api.Before)
	say(round, 1, 2, api.Before)
	say(round, 2, 0, api.Before)
	for _, net := range [][][]api.Set{{{0}}, {{set(api.Before)}}, {{api.AnyWay - 64}}, notItself, nothing, oneSided, round} {
		closed, err := span.Close(net)
		wantNil(t, at("Close(%v)", net), closed, err, api.ErrNone)
		solved, err := span.Solve(net)
		wantNil(t, at("Solve(%v)", net), solved, err, api.ErrNone)
	}
}

// eachWithin goes through all nets that have no way that a net has not.
func eachWithin(net [][]api.Set, see func([][]api.Set)) {
	within := copyOf(net)
	var from func(i int)
	from = func(i int) {
		if i == len(net)*len(net) {
			see(within)
			return
		}
		row, column := i/len(net), i%len(net)
		all := net[row][column]
		for s := all; ; s = (s - 1) & all {
			within[row][column] = s
			from(i + 1)
			if s == 0 {
				break
			}
		}
	}
	from(0)
}

// thin is a net with few ways: one from each span to itself, and a few between each two.
func thin(r *rand.Rand, size, few int) [][]api.Set {
	net := drawnAround(r, size, few)
	for i := range size {
		net[i][i] = set(api.Equal)
	}
	if r.Intn(8) == 0 {
		net[r.Intn(size)][r.Intn(size)] |= 1 << r.Intn(api.Ways)
	}
	if r.Intn(8) == 0 {
		net[r.Intn(size)][r.Intn(size)] &= 1 << r.Intn(api.Ways)
	}
	return net
}

func TestCloseHasTheMostWays(t *testing.T) {
	f := modelFollow()
	r := rand.New(rand.NewSource(44))
	told := map[bool]int{}
	for n := range 60 {
		net := thin(r, 2+n%2, 4-3*(n%2))
		most := copyOf(net)
		for i := range most {
			clear(most[i])
		}
		found := false
		eachWithin(net, func(within [][]api.Set) {
			if !f.isClosed(within) {
				return
			}
			found = true
			for i := range within {
				for k := range within {
					most[i][k] |= within[i][k]
				}
			}
		})
		found = found && !hasNone(most)
		told[found]++
		if found {
			wantNet(t, net, most)
			continue
		}
		closed, err := span.Close(net)
		wantNil(t, at("Close(%v)", net), closed, err, api.ErrNone)
	}
	if told[true] < 20 || told[false] < 5 {
		t.Errorf("nets that close, and that don't: %v: too few of one kind to tell anything", told)
	}
}

func TestCloseOfDrawnNets(t *testing.T) {
	f := modelFollow()
	r := rand.New(rand.NewSource(45))
	told := map[bool]int{}
	for n := range 400 {
		size, more := 1+r.Intn(api.MaxSpans), r.Intn(20)
		net := drawn(r, size, more)
		if n%2 == 0 {
			net = drawnAround(r, size, more)
		}
		want := f.close(net)
		told[hasNone(want)]++
		if hasNone(want) {
			closed, err := span.Close(net)
			wantNil(t, at("Close(%v)", net), closed, err, api.ErrNone)
			continue
		}
		if !f.isClosed(want) {
			t.Fatalf("the model does not close %v: %v", net, want)
		}
		wantNet(t, net, want)
		wantNet(t, want, want)
	}
	if told[true] < 50 || told[false] < 50 {
		t.Errorf("nets that have none, and that have some: %v: too few of one kind to tell anything", told)
	}
}

func TestCloseLosesNoSpans(t *testing.T) {
	r := rand.New(rand.NewSource(46))
	lists := 0
	for range 150 {
		net := drawnAround(r, 1+r.Intn(3), 5)
		closed, err := span.Close(net)
		if err != nil {
			t.Fatalf("Close(%v): %v", net, err)
		}
		eachHolding(net, 5, func(l []api.Span) bool {
			lists++
			got, err := span.Holds(closed, l)
			wantValue(t, at("Holds of what Close tells of %v, of %v", net, l), got, err, true)
			return t.Failed()
		})
	}
	if lists < 1000 {
		t.Errorf("%d lists hold: too few to tell anything", lists)
	}
}

func TestNetsAreNeitherKeptNorShared(t *testing.T) {
	net := loose(3)
	say(net, 0, 1, api.Overlaps)
	say(net, 1, 2, api.During)
	was := show(net)
	first, err := span.Close(net)
	if err != nil {
		t.Fatal(err)
	}
	wanted := show(first)
	if _, err := span.Solve(net); err != nil {
		t.Fatal(err)
	}
	if _, err := span.Holds(net, spansFrom(0, 2)); err != nil {
		t.Fatal(err)
	}
	if show(net) != was {
		t.Errorf("a net that was handed in is %v now; it was %s", net, was)
	}
	for i := range first {
		_ = append(first[i], -1)
	}
	if show(first) != wanted {
		t.Errorf("what is put behind a row is in another one: %v; %s is wanted", first, wanted)
	}
	for i := range first {
		clear(first[i])
	}
	if show(net) != was {
		t.Errorf("what Close tells shares memory with what it was given")
	}
	second, err := span.Close(net)
	if err != nil || show(second) != wanted {
		t.Errorf("Close(%v): %v, %v; ahead of that it told %s", net, second, err, wanted)
	}
}
