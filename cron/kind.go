package cron

import (
	"slices"
	"strings"

	"almanac/api"
)

// What is called by a number from 1 on is called so, in its order.
const (
	monthNames   = "JAN FEB MAR APR MAY JUN JUL AUG SEP OCT NOV DEC"
	weekdayNames = "MON TUE WED THU FRI SAT SUN"
)

// kind is what some numbers may be.
type kind struct {
	least, most int
	names       string // of the numbers from 1 on
	nought      int    // what a 0 is read as
}

var (
	minutes   = kind{least: 0, most: 59}
	hours     = kind{least: 0, most: 23}
	monthDays = kind{least: 1, most: 31}
	months    = kind{least: 1, most: 12, names: monthNames}
	weekdays  = kind{least: 1, most: 7, names: weekdayNames, nought: sunday}
	places    = kind{least: 1, most: 5}
	steps     = kind{least: 1, most: 60}
)

// number reads a number, or its name.
func (k kind) number(text string) int {
	if i := slices.Index(strings.Fields(k.names), text); i >= 0 {
		return i + 1
	}
	n := decimal(text)
	if n == 0 {
		n = k.nought
	}
	if !k.has(n) {
		giveUp(api.ErrRange)
	}
	return n
}

// has says whether a number may be.
func (k kind) has(n int) bool { return n >= k.least && n <= k.most }

// rise says whether numbers may all be, and rise.
func (k kind) rise(l []int) bool {
	for _, n := range l {
		if !k.has(n) {
			return false
		}
		k.least = n + 1
	}
	return true
}

// all says whether numbers that rise are all that may be.
func (k kind) all(l []int) bool { return len(l) == k.most-k.least+1 }

// decimal reads digits.
func decimal(text string) int {
	// No number that may be is as great as this.
	const great = 1000
	if text == "" || len(text) > 1 && text[0] == '0' {
		giveUp(api.ErrForm)
	}
	n := 0
	for i := range len(text) {
		if text[i] < '0' || text[i] > '9' {
			giveUp(api.ErrForm)
		}
		// A number may have as many digits as a text: one that is too great stays so.
		n = min(10*n+int(text[i]-'0'), great)
	}
	return n
}
