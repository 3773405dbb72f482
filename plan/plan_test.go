package plan_test

import (
	"math"
	"math/rand"
	"reflect"
	"slices"
	"testing"

	"almanac/api"
	"almanac/plan"
)

// Promises 12.2 and 12.3: Early, End, Late, Critical and Path.

func TestEarly(t *testing.T) {
	for _, c := range []struct {
		l    []api.Task
		want []api.Span
		end  int
	}{
		{nil, nil, 0},
		{[]api.Task{{}}, spansOf(0, 0), 0},
		{[]api.Task{{Length: 3, NotBefore: 4}}, spansOf(4, 7), 7},
		{[]api.Task{{Length: 10}, behind(3, api.Link{Kind: api.EndStart, Lag: 2})}, spansOf(0, 10, 12, 15), 15},
		{[]api.Task{{Length: 10}, behind(3, api.Link{Kind: api.EndStart, Lag: -2})}, spansOf(0, 10, 8, 11), 11},
		{[]api.Task{{Length: 10}, behind(3, api.Link{Kind: api.EndStart, Lag: -12})}, spansOf(0, 10, 0, 3), 10},
		{[]api.Task{{Length: 10, NotBefore: 1}, behind(3, api.Link{Kind: api.StartStart, Lag: 2})}, spansOf(1, 11, 3, 6), 11},
		{[]api.Task{{Length: 10, NotBefore: 1}, behind(3, api.Link{Kind: api.EndEnd, Lag: 2})}, spansOf(1, 11, 10, 13), 13},
		{[]api.Task{{Length: 10, NotBefore: 1}, behind(3, api.Link{Kind: api.StartEnd, Lag: 7})}, spansOf(1, 11, 5, 8), 11},
		{[]api.Task{{Length: 10, NotBefore: 1}, behind(3, api.Link{Kind: api.StartEnd, Lag: 2})}, spansOf(1, 11, 0, 3), 11},
		{[]api.Task{behind(3, to(1)), behind(4, to(2)), {Length: 5}}, spansOf(9, 12, 5, 9, 0, 5), 12},
		{[]api.Task{{Length: 5}, {Length: 6}, behind(1, to(0), to(1)), behind(1, to(1), to(0))}, spansOf(0, 5, 0, 6, 6, 7, 6, 7), 7},
		{[]api.Task{{Length: 5}, {Length: 1, NotBefore: 9, Links: linksTo(0, 1)}}, spansOf(0, 5, 9, 10), 10},
	} {
		got, err := plan.Early(c.l)
		wantValue(t, at("12.2: Early(%v)", c.l), got, err, c.want)
		end, err := plan.End(c.l)
		wantValue(t, at("12.2: End(%v)", c.l), end, err, c.end)
	}
}

// chain are sixty tasks, each as late behind the one ahead as it can be.
func chain() []api.Task {
	l := make([]api.Task, 60)
	for i := range l {
		l[i] = api.Task{Length: most, NotBefore: most}
		if i > 0 {
			l[i].Links = []api.Link{{Task: i - 1, Kind: api.EndStart, Lag: most}}
		}
	}
	return l
}

func TestGreatestEnd(t *testing.T) {
	end, err := plan.End(chain())
	wantValue(t, at("12.2: End of sixty tasks"), end, err, 120*most)
	row, err := plan.Path(chain())
	if err != nil || len(row) != 60 || row[0] != 0 || row[59] != 59 {
		t.Errorf("12.3: Path of sixty tasks: %v, %v", row, err)
	}
}

func TestLate(t *testing.T) {
	for _, c := range []struct {
		l    []api.Task
		by   int
		want []api.Span
	}{
		{nil, 0, nil},
		{[]api.Task{{}}, 5, spansOf(5, 5)},
		{[]api.Task{{Length: 3, NotBefore: 4}}, 7, spansOf(4, 7)},
		{[]api.Task{{Length: 10}, behind(3, api.Link{Kind: api.EndStart, Lag: 2})}, 20, spansOf(5, 15, 17, 20)},
		{[]api.Task{{Length: 10}, behind(3, api.Link{Kind: api.EndStart, Lag: -2})}, 20, spansOf(9, 19, 17, 20)},
		{[]api.Task{{Length: 10}, behind(3, api.Link{Kind: api.EndStart, Lag: -12})}, 20, spansOf(10, 20, 17, 20)},
		{[]api.Task{{Length: 10}, behind(3, api.Link{Kind: api.StartStart, Lag: 9})}, 20, spansOf(8, 18, 17, 20)},
		{[]api.Task{{Length: 10}, behind(3, api.Link{Kind: api.EndEnd, Lag: 2})}, 20, spansOf(8, 18, 17, 20)},
		{[]api.Task{{Length: 10}, behind(3, api.Link{Kind: api.StartEnd, Lag: 12})}, 20, spansOf(8, 18, 17, 20)},
		{[]api.Task{behind(3, to(1)), behind(4, to(2)), {Length: 5}}, 13, spansOf(10, 13, 6, 10, 1, 6)},
		{[]api.Task{{Length: 5}, behind(1, to(0)), behind(2, to(0))}, 7, spansOf(0, 5, 6, 7, 5, 7)},
		{[]api.Task{{Length: 2}, {Length: 1, NotBefore: 9, Links: linksTo(0, 1)}}, 10, spansOf(7, 9, 9, 10)},
		{[]api.Task{{Length: 2}}, 1 << 40, spansOf(1<<40-2, 1<<40)},
	} {
		got, err := plan.Late(c.l, c.by)
		wantValue(t, at("12.2: Late(%v, %d)", c.l, c.by), got, err, c.want)
	}
}

func TestLateFaults(t *testing.T) {
	l := []api.Task{{Length: 5, NotBefore: 2}}
	for _, c := range []struct {
		l    []api.Task
		by   int
		want api.Errno
	}{
		{l, 6, api.ErrNone},
		{l, -7, api.ErrNone},
		{l, math.MinInt, api.ErrNone},
		{nil, -1, api.ErrNone},
		{l, 1<<40 + 1, api.ErrRange},
		{l, math.MaxInt, api.ErrRange},
		{nil, 1<<40 + 1, api.ErrRange},
	} {
		got, err := plan.Late(c.l, c.by)
		wantError(t, at("12.2: Late(%v, %d)", c.l, c.by), got, err, c.want)
	}
}

func TestCriticalAndPath(t *testing.T) {
	for _, c := range []struct {
		l              []api.Task
		critical, path []int
	}{
		{nil, nil, nil},
		{[]api.Task{{}}, []int{0}, []int{0}},
		{[]api.Task{{Length: 5}, {Length: 5}, {Length: 4}}, []int{0, 1}, []int{0}},
		{[]api.Task{{Length: 4}, {Length: 5}, {Length: 5}}, []int{1, 2}, []int{1}},
		{[]api.Task{behind(3, to(1)), behind(4, to(2)), {Length: 5}}, []int{0, 1, 2}, []int{2, 1, 0}},
		{[]api.Task{{Length: 5}, {Length: 6}, behind(1, to(0), to(1))}, []int{1, 2}, []int{1, 2}},
		{[]api.Task{{Length: 6}, {Length: 6}, behind(1, to(1), to(0))}, []int{0, 1, 2}, []int{1, 2}},
		// It is the NotBefore that lets it begin no sooner: also if a link does so, too.
		{[]api.Task{{Length: 5}, {Length: 1, NotBefore: 5, Links: linksTo(0, 1)}}, []int{0, 1}, []int{1}},
		{[]api.Task{{Length: 5}, {Length: 1, NotBefore: 6, Links: linksTo(0, 1)}}, []int{1}, []int{1}},
		{[]api.Task{{Length: 5}, {Length: 1, NotBefore: 4, Links: linksTo(0, 1)}}, []int{0, 1}, []int{0, 1}},
		// A task that begins at nought waits for none.
		{[]api.Task{{}, behind(3, to(0))}, []int{0, 1}, []int{1}},
		{[]api.Task{{Length: 9}, behind(3, api.Link{Kind: api.EndEnd, Lag: 1})}, []int{0, 1}, []int{0, 1}},
		{[]api.Task{{Length: 9}, behind(3, api.Link{Kind: api.StartStart, Lag: 8})}, []int{0, 1}, []int{0, 1}},
		{[]api.Task{{Length: 9}, behind(3, api.Link{Kind: api.StartEnd, Lag: 8})}, []int{0}, []int{0}},
		{[]api.Task{{Length: 9}, behind(3, api.Link{Kind: api.StartEnd, Lag: 11})}, []int{0, 1}, []int{0, 1}},
	} {
		got, err := plan.Critical(c.l)
		wantValue(t, at("12.2: Critical(%v)", c.l), got, err, c.critical)
		got, err = plan.Path(c.l)
		wantValue(t, at("12.3: Path(%v)", c.l), got, err, c.path)
	}
}

// TestModelTimes: Early and Late are, task by task, the least and the greatest of all that there are, and these are such themselves.
func TestModelTimes(t *testing.T) {
	r := rand.New(rand.NewSource(12))
	for range 1500 {
		l := drawnPlan(r, r.Intn(4), 3, 2, 0)
		early, err := plan.Early(l)
		end, err2 := plan.End(l)
		by := end + r.Intn(3)
		late, err3 := plan.Late(l, by)
		if err != nil || err2 != nil || err3 != nil {
			t.Fatalf("12.2: %v: %v, %v, %v", l, err, err2, err3)
		}
		var least, greatest []api.Span
		allSpans(l, by, func(spans []api.Span) {
			if fit(l, spans) {
				least = bestOf(least, spans, false)
			}
			if allHold(l, spans) && endBy(spans, by) {
				greatest = bestOf(greatest, spans, true)
			}
		})
		wantValue(t, at("12.2: Early(%v)", l), early, nil, least)
		wantValue(t, at("12.2: Late(%v, %d)", l, by), late, nil, greatest)
		if !fit(l, early) || !endBy(early, end) || end > 0 && endBy(early, end-1) || !areLong(l, late) {
			t.Errorf("12.2: %v: Early is %v, End %d, Late %v", l, early, end, late)
		}
	}
}

// TestModelPath: the path is a row of links that goes up to the end, and takes as long as the longest one.
func TestModelPath(t *testing.T) {
	r := rand.New(rand.NewSource(123))
	for range 2000 {
		l := drawnPlan(r, 1+r.Intn(8), 5, 4, 0)
		early, _ := plan.Early(l)
		end, _ := plan.End(l)
		late, _ := plan.Late(l, end)
		path, err := plan.Path(l)
		critical, err2 := plan.Critical(l)
		if err != nil || err2 != nil || len(path) == 0 {
			t.Fatalf("12.3: %v: %v, %v, %v", l, path, err, err2)
		}
		most := 0
		for i := range l {
			most = max(most, longest(l, i))
			if slices.Contains(critical, i) != (early[i] == late[i]) {
				t.Errorf("12.2: Critical(%v): %v; Early is %v, Late %v", l, critical, early, late)
			}
		}
		if !slices.IsSorted(critical) || most != end {
			t.Errorf("12.3: %v: Critical is %v, End %d; the longest row is %d", l, critical, end, most)
		}
		checkPath(t, l, early, end, path, critical)
	}
}

// checkPath holds a path against what 12.3 says of it.
func checkPath(t *testing.T, l []api.Task, early []api.Span, end int, path, critical []int) {
	t.Helper()
	last := path[len(path)-1]
	for i, s := range early {
		if s.To > early[last].To || s.To == end && i < last {
			t.Errorf("12.3: Path(%v): %v does not end with %d", l, path, i)
		}
	}
	for k, i := range path {
		if !slices.Contains(critical, i) {
			t.Errorf("12.3: Path(%v): %v, of which %v are critical", l, path, critical)
		}
		if (k == 0) != (early[i].From == l[i].NotBefore) {
			t.Errorf("12.3: Path(%v): %v, Early is %v", l, path, early)
		}
		if k == 0 {
			continue
		}
		sooner := api.Span{From: early[i].From - 1, To: early[i].To - 1}
		for _, link := range l[i].Links {
			if !holds(link, sooner, early[link.Task]) {
				if link.Task != path[k-1] {
					t.Errorf("12.3: Path(%v): %v, where %d is ahead of %d", l, path, link.Task, i)
				}
				break
			}
		}
	}
}

// TestOwn: nothing that is handed in is written into, and nothing of it is handed out.
func TestOwn(t *testing.T) {
	r := rand.New(rand.NewSource(5))
	for range 200 {
		l := drawnPlan(r, 6, 5, 4, 2)
		before := copyOf(l)
		have := []int{4, 4}
		first := answers(l, have)
		for _, spans := range first.spans {
			for i := range spans {
				spans[i] = api.Span{From: -1, To: -1}
			}
		}
		for _, row := range first.rows {
			for i := range row {
				row[i] = -1
			}
		}
		if !reflect.DeepEqual(l, before) || !slices.Equal(have, []int{4, 4}) {
			t.Fatalf("P4: %v became %v", before, l)
		}
		if !reflect.DeepEqual(answers(l, have), answers(before, have)) {
			t.Fatalf("P4: %v is answered otherwise than ahead", l)
		}
	}
}

// told is what calls answer.
type told struct {
	spans [][]api.Span
	rows  [][]int
}

// answers are what all calls answer.
func answers(l []api.Task, have []int) told {
	early, _ := plan.Early(l)
	late, _ := plan.Late(l, 1000)
	level, _ := plan.Level(l, have)
	critical, _ := plan.Critical(l)
	path, _ := plan.Path(l)
	return told{spans: [][]api.Span{early, late, level}, rows: [][]int{critical, path}}
}
