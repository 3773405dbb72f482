package plan

import (
	"almanac/api"
)

// most is how many resources there may be.
const most = 8

// Check says whether a plan may be.
func Check(l []api.Task) error {
	if len(l) > api.MaxTasks {
		return api.ErrLimit
	}
	for i := range l {
		if err := checkTask(l, i); err != nil {
			return err
		}
	}
	if len(order(l)) < len(l) {
		return api.ErrCycle
	}
	return nil
}

// checkTask says whether one task of a plan may be, but for what it hangs on by others.
func checkTask(l []api.Task, i int) error {
	t := l[i]
	if !isLength(t.Length) || !isLength(t.NotBefore) || len(t.Links) > api.MaxTasks || len(t.Uses) > most {
		return api.ErrArg
	}
	for _, link := range t.Links {
		if link.Task < 0 || link.Task >= len(l) || link.Kind < api.EndStart || link.Kind > api.StartEnd {
			return api.ErrArg
		}
		if link.Lag < -api.MaxLag || link.Lag > api.MaxLag {
			return api.ErrArg
		}
		if link.Task == i {
			return api.ErrCycle
		}
	}
	for _, use := range t.Uses {
		if !isLength(use) {
			return api.ErrArg
		}
	}
	return nil
}

// isLength says whether a task may be so long, begin so late, or use so much.
func isLength(n int) bool { return n >= 0 && n <= api.MaxLag }

// order is all tasks, each behind those on which it hangs; but for those that hang on themselves, and on such.
func order(l []api.Task) []int {
	var row []int
	stands := make([]bool, len(l))
	for {
		before := len(row)
		for i, t := range l {
			if !stands[i] && haveAll(t.Links, stands) {
				stands[i] = true
				row = append(row, i)
			}
		}
		if len(row) == before {
			return row
		}
	}
}

// haveAll says whether all are there to which links are.
func haveAll(links []api.Link, there []bool) bool {
	for _, link := range links {
		if !there[link.Task] {
			return false
		}
	}
	return true
}
