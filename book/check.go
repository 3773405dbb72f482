package book

import (
	"almanac/api"
	"almanac/clock"
	"almanac/rule"
)

const maxSeq = 1_000_000

// Check says whether an event may be.
func Check(e api.Event) error {
	if !Name(e.Uid) || e.Zone != "" && !Name(e.Zone) {
		return api.ErrName
	}
	if e.Seq < 0 || e.Seq > maxSeq || !mayTake(e.Length, e.Title) {
		return api.ErrArg
	}
	if err := checkTime(e.Start); err != nil {
		return err
	}
	for _, times := range [][]api.Local{e.Out, e.In} {
		if err := checkTimes(times); err != nil {
			return err
		}
	}
	if err := checkOthers(e.Others); err != nil {
		return err
	}
	if !e.Repeats {
		return nil
	}
	_, err := rule.All(e.Rule, e.Start)
	return err
}

// checkOthers says whether what is other may be.
func checkOthers(others []api.Other) error {
	for _, o := range others {
		if o.Gone && (o.Start != 0 || o.Length != 0 || o.Title != "") || !mayTake(o.Length, o.Title) {
			return api.ErrArg
		}
		if err := checkTime(o.Start); err != nil {
			return err
		}
	}
	times := make([]api.Local, len(others))
	for i, o := range others {
		times[i] = o.At
	}
	return checkTimes(times)
}

// checkTimes says whether times are there, and rise.
func checkTimes(l []api.Local) error {
	if len(l) > api.MaxList {
		return api.ErrLimit
	}
	for i, t := range l {
		if err := checkTime(t); err != nil {
			return err
		}
		if i > 0 && t <= l[i-1] {
			return api.ErrOrder
		}
	}
	return nil
}

// checkTime says whether a time is there.
func checkTime(t api.Local) error {
	_, _, err := clock.Split(t)
	return err
}

// mayTake says whether something may take so long, and be called so.
func mayTake(length int, title string) bool {
	return length >= 0 && length <= api.MaxLength && len(title) <= api.MaxTitle && !hasControl(title)
}

// hasControl says whether a text has a character that is not to be seen.
func hasControl(s string) bool {
	const rubout = 0x7f
	for _, r := range s {
		if r < ' ' || r == rubout {
			return true
		}
	}
	return false
}
