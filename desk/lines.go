package desk

import (
	"strconv"

	"almanac/api"
)

// answer does what a line says, and tells what it has to tell, if there is something.
func (h *house) answer(words []string, block string) ([]string, error) {
	isLine := fits(words)
	switch {
	case h.me == nil && !(isLine && forAll(words[0])):
		return nil, api.ErrState
	case !isLine:
		return nil, api.ErrForm
	}
	lines, err := h.do(words, block)
	if err != nil {
		return nil, err
	}
	if len(lines) > api.MaxTold {
		return nil, api.ErrLimit
	}
	return lines, nil
}

// fits says whether words are a line.
func fits(words []string) bool {
	n := wordsOf(words[0])
	return n > 0 && (len(words) == n || len(words) > n && words[0] == "meet")
}

// wordsOf is how many words a line has that begins with one, at least; 0, if there is no such line.
func wordsOf(first string) int {
	switch first {
	case "put", "uids", "inbox":
		return 1
	case "user", "zone", "as", "here", "get", "who":
		return 2
	case "drop", "show", "share", "invite", "yes", "no":
		return 3
	case "split", "look":
		return 4
	case "meet":
		return 5
	}
	return 0
}

// forAll says whether a line may be ahead of the first one that names somebody.
func forAll(first string) bool { return first == "user" || first == "zone" || first == "as" }

// do does what a line says.
func (h *house) do(w []string, block string) ([]string, error) {
	switch w[0] {
	case "user":
		return nil, h.enter(w[1])
	case "zone":
		return nil, h.setZone(w[1], block)
	case "as":
		return nil, h.as(w[1])
	case "here":
		return nil, h.here(w[1])
	case "put":
		return nil, h.put(block)
	case "drop":
		return nil, h.drop(w[1], w[2])
	case "get":
		return h.get(w[1])
	case "uids":
		return h.uids()
	case "split":
		return nil, h.split(w[1], w[2], w[3])
	case "show":
		return h.show(h.me, w[1], w[2])
	case "look":
		return h.look(w[1], w[2], w[3])
	case "share":
		return nil, h.share(w[1], w[2])
	case "invite":
		return nil, h.invite(w[1], w[2])
	case "inbox":
		return h.inbox()
	case "yes":
		return nil, h.yes(w[1], w[2])
	case "no":
		return nil, h.no(w[1], w[2])
	case "who":
		return h.who(w[1])
	}
	return h.meet(w[1:3], w[3:5], w[5:])
}

// list tells how many there are, and then a line of each.
func list[T any](all []T, line func(T) string) ([]string, error) {
	// What is told to nobody is not written.
	if len(all)+1 > api.MaxTold {
		return nil, api.ErrLimit
	}
	lines := []string{strconv.Itoa(len(all))}
	for _, one := range all {
		lines = append(lines, line(one))
	}
	return lines, nil
}
