package desk

import (
	"slices"
	"strconv"
	"strings"

	"almanac/api"
)

// What somebody answered who was invited.
const (
	saidNothing = iota
	saidYes
	saidNo
)

// said writes an answer.
func said(answer int) string {
	switch answer {
	case saidYes:
		return "yes"
	case saidNo:
		return "no"
	}
	return "?"
}

// invite tells somebody one of one's events.
func (h *house) invite(uid, name string) error {
	e, err := h.me.book.Get(uid)
	if err != nil {
		return err
	}
	who, err := h.person(name)
	if err != nil {
		return err
	}
	if who == h.me {
		return api.ErrState
	}
	told := letter{from: h.me.name, event: e}
	if i := who.letter(told.from, uid); i >= 0 {
		who.inbox[i] = told
	} else {
		who.inbox = append(who.inbox, told)
	}
	if h.me.invited[uid] == nil {
		h.me.invited[uid] = map[string]int{}
	}
	h.me.invited[uid][name] = saidNothing
	return nil
}

// letter is the place of what somebody told of an event, if it is not answered; else -1.
func (p *person) letter(from, uid string) int {
	return slices.IndexFunc(p.inbox, func(l letter) bool { return l.from == from && l.event.Uid == uid })
}

// inbox tells what one has not answered.
func (h *house) inbox() ([]string, error) {
	return list(h.me.inbox, func(l letter) string {
		return strings.Join([]string{l.from, l.event.Uid, strconv.Itoa(l.event.Seq), l.event.Title}, " ")
	})
}

// yes puts an event into one's book that somebody told.
func (h *house) yes(from, uid string) error {
	i := h.me.letter(from, uid)
	if i < 0 {
		return api.ErrMissing
	}
	if err := h.me.book.Put(h.me.inbox[i].event); err != nil {
		return err
	}
	h.reply(i, saidYes)
	return nil
}

// no leaves an event that somebody told.
func (h *house) no(from, uid string) error {
	i := h.me.letter(from, uid)
	if i < 0 {
		return api.ErrMissing
	}
	h.reply(i, saidNo)
	return nil
}

// reply answers what somebody told.
func (h *house) reply(i, answer int) {
	l := h.me.inbox[i]
	h.me.inbox = slices.Delete(h.me.inbox, i, i+1)
	h.people[l.from].invited[l.event.Uid][h.me.name] = answer
}

// who tells what those answered who were invited.
func (h *house) who(uid string) ([]string, error) {
	if _, err := h.me.book.Get(uid); err != nil {
		return nil, err
	}
	var lines []string
	for name, answer := range h.me.invited[uid] {
		lines = append(lines, name+" "+said(answer))
	}
	slices.Sort(lines)
	return list(lines, func(line string) string { return line })
}
