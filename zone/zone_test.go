package zone_test

import (
	"math"
	"slices"
	"testing"

	"almanac/api"
	"almanac/zone"
)

func TestFixed(t *testing.T) {
	for _, offset := range []int{math.MinInt, -86401, -86400, 86400, 86401, math.MaxInt} {
		z, err := zone.Fixed(offset)
		wantError(t, at("3.4: Fixed(%d)", offset), z, err, api.ErrRange)
	}
	for _, offset := range []int{-86399, -3600, -1, 0, 1, 3601, 86399} {
		z := mustFixed(t, offset)
		for _, x := range []api.Instant{someEarly, -api.MaxTime, -1, 0, 1, api.MaxTime, someLate} {
			wantValue(t, at("3.4: At(%d) of %d", x, offset), z.At(x), nil, api.Now{Offset: offset})
		}
		wantList(t, at("3.4: Changes of %d", offset), z.Changes(someEarly, someLate), nil)
		for _, l := range []api.Local{firstTime, -1, 0, 1, lastTime} {
			wantList(t, at("3.4: Moments(%d) of %d", l, offset), z.Moments(l), []api.Instant{api.Instant(l) - api.Instant(offset)})
			for _, how := range []int{api.Early, api.Late, api.Refuse} {
				got, err := z.Resolve(l, how)
				wantValue(t, at("3.5: Resolve(%d, %d) of %d", l, how, offset), got, err, api.Instant(l)-api.Instant(offset))
			}
		}
	}
}

// TestLocal: the moments that are there, and those at which what is shown is not.
func TestLocal(t *testing.T) {
	for _, offset := range []int{-86399, -60, 0, 60, 86399} {
		z := mustFixed(t, offset)
		for _, x := range []api.Instant{0, -1, moment(2024, 2, 29, 12, 0), api.Instant(max(int(firstTime)-offset, -api.MaxTime)), api.Instant(min(int(lastTime)-offset, api.MaxTime))} {
			got, err := z.Local(x)
			wantValue(t, at("3.4: Local(%d) of %d", x, offset), got, err, api.Local(int(x)+offset))
		}
		for _, x := range []api.Instant{someEarly, -api.MaxTime - 1, api.Instant(int(firstTime)-offset) - 1, api.Instant(int(lastTime)-offset) + 1, api.MaxTime + 1, someLate} {
			got, err := z.Local(x)
			wantError(t, at("3.4: Local(%d) of %d", x, offset), got, err, api.ErrRange)
		}
	}
}

// TestClocksOffByDays: a moment is not there, though what is shown at it would be; a time is shown at such a moment all the same.
func TestClocksOffByDays(t *testing.T) {
	z := mustParse(t, "rule q 1 only 1 1 00:00u -23:59\nera -23:59 q")
	got, err := z.Local(api.MaxTime + 1)
	wantError(t, at("3.4: Local(MaxTime + 1)"), got, err, api.ErrRange)
	want := api.Instant(lastTime) + 2*86340
	wantList(t, at("3.4: Moments(MaxTime)"), z.Moments(lastTime), []api.Instant{want})
	moment, err := z.Resolve(lastTime, api.Refuse)
	wantValue(t, at("3.5: Resolve(MaxTime, Refuse)"), moment, err, want)
}

func TestNoTimes(t *testing.T) {
	for _, z := range []*zone.Zone{mustFixed(t, 0), mustFixed(t, 86399), mustFixed(t, -86399), mustParse(t, europe)} {
		for _, l := range noTimes {
			wantList(t, at("3.4: Moments(%d)", l), z.Moments(l), nil)
			for _, how := range []int{api.Early, api.Late, api.Refuse} {
				got, err := z.Resolve(l, how)
				wantError(t, at("3.5: Resolve(%d, %d)", l, how), got, err, api.ErrRange)
			}
		}
		for _, how := range []int{math.MinInt, -1, api.Refuse + 1, math.MaxInt} {
			for _, l := range append(noTimes, 0, local(2024, 3, 31, 2, 30), local(2024, 10, 27, 2, 30)) {
				got, err := z.Resolve(l, how)
				wantError(t, at("3.5: Resolve(%d, %d)", l, how), got, err, api.ErrArg)
			}
		}
	}
}

// TestEurope is the document's example: an hour that is never shown, and one that is shown twice.
func TestEurope(t *testing.T) {
	z := mustParse(t, europe)
	spring, autumn := moment(2024, 3, 31, 1, 0), moment(2024, 10, 27, 1, 0)
	winter, summer := ahead(1, 0), ahead(2, 1)
	for _, k := range []struct {
		at   api.Instant
		want api.Now
	}{
		{someEarly, winter}, {moment(1981, 3, 29, 1, 0) - 1, winter}, {moment(1981, 3, 29, 1, 0), summer}, {moment(1990, 1, 1, 0, 0), summer}, {moment(1996, 10, 27, 1, 0) - 1, summer}, {moment(1996, 10, 27, 1, 0), winter},
		{spring - 1, winter}, {spring, summer}, {autumn - 1, summer}, {autumn, winter},
		{moment(2500, 3, 28, 1, 0), summer}, {moment(2500, 10, 31, 1, 0) - 1, summer}, {moment(2500, 10, 31, 1, 0), winter}, {moment(2501, 7, 1, 0, 0), winter}, {someLate, winter},
	} {
		wantValue(t, at("3.3: At(%d)", k.at), z.At(k.at), nil, k.want)
	}
	lost, twice := local(2024, 3, 31, 2, 0), local(2024, 10, 27, 2, 0)
	for _, k := range []struct {
		l           api.Local
		want        []api.Instant
		early, late api.Instant
	}{
		{lost - 1, []api.Instant{spring - 1}, spring - 1, spring - 1}, {lost, nil, spring - 3600, spring}, {lost + 1800, nil, spring - 1800, spring + 1800}, {lost + 3599, nil, spring - 1, spring + 3599}, {lost + 3600, []api.Instant{spring}, spring, spring},
		{twice - 1, []api.Instant{autumn - 3601}, autumn - 3601, autumn - 3601}, {twice, []api.Instant{autumn - 3600, autumn}, autumn - 3600, autumn}, {twice + 3599, []api.Instant{autumn - 1, autumn + 3599}, autumn - 1, autumn + 3599}, {twice + 3600, []api.Instant{autumn + 3600}, autumn + 3600, autumn + 3600},
	} {
		wantList(t, at("3.4: Moments(%d)", k.l), z.Moments(k.l), k.want)
		early, err := z.Resolve(k.l, api.Early)
		wantValue(t, at("3.5: Resolve(%d, Early)", k.l), early, err, k.early)
		late, err := z.Resolve(k.l, api.Late)
		wantValue(t, at("3.5: Resolve(%d, Late)", k.l), late, err, k.late)
		only, err := z.Resolve(k.l, api.Refuse)
		if len(k.want) == 1 {
			wantValue(t, at("3.5: Resolve(%d, Refuse)", k.l), only, err, k.early)
		} else {
			wantError(t, at("3.5: Resolve(%d, Refuse)", k.l), only, err, api.ErrTwice)
		}
	}
}

// TestChanges: those from a moment on, up to another one, which is not of them.
func TestChanges(t *testing.T) {
	z := mustParse(t, europe)
	spring, autumn := moment(2024, 3, 31, 1, 0), moment(2024, 10, 27, 1, 0)
	first, second := api.Change{At: spring, Now: ahead(2, 1)}, api.Change{At: autumn, Now: ahead(1, 0)}
	for _, k := range []struct {
		from, to api.Instant
		want     []api.Change
	}{
		{spring, autumn + 1, []api.Change{first, second}}, {spring, autumn, []api.Change{first}}, {spring + 1, autumn + 1, []api.Change{second}}, {spring + 1, autumn, nil},
		{spring, spring + 1, []api.Change{first}}, {spring, spring, nil}, {spring - 1, spring, nil}, {autumn + 1, spring, nil}, {someLate, someEarly, nil},
		{someEarly, moment(1981, 3, 29, 1, 0), nil}, {someEarly, moment(1981, 3, 29, 1, 0) + 1, []api.Change{{At: moment(1981, 3, 29, 1, 0), Now: ahead(2, 1)}}},
		{moment(2500, 10, 31, 1, 0), someLate, []api.Change{{At: moment(2500, 10, 31, 1, 0), Now: ahead(1, 0)}}}, {moment(2500, 10, 31, 1, 0) + 1, someLate, nil},
	} {
		wantList(t, at("3.4: Changes(%d, %d)", k.from, k.to), z.Changes(k.from, k.to), k.want)
	}
	// Each year from 1981 on has a spring, and from 1996 on an autumn; springs ahead of that save what is saved already.
	all := z.Changes(someEarly, someLate)
	if len(all) != 1+1+2*(2500-1996) {
		t.Errorf("3.4: %d changes in all", len(all))
	}
}

// TestFreshMemory: what comes out is the caller's.
func TestFreshMemory(t *testing.T) {
	z := mustParse(t, europe)
	got := z.Changes(someEarly, someLate)
	want := slices.Clone(got)
	clear(got)
	_ = append(got[:0], make([]api.Change, 10)...)
	wantList(t, at("P4: Changes, behind changes that were written into"), z.Changes(someEarly, someLate), want)
	wantValue(t, at("P4: At, behind changes that were written into"), z.At(moment(2024, 7, 1, 0, 0)), nil, ahead(2, 1))
	twice := local(2024, 10, 27, 2, 30)
	moments := z.Moments(twice)
	again := slices.Clone(moments)
	clear(moments)
	wantList(t, at("P4: Moments, behind moments that were written into"), z.Moments(twice), again)
}
