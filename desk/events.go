package desk

import (
	"strings"

	"almanac/api"
	"almanac/text"
)

// drop takes an event away.
func (h *house) drop(uid, number string) error {
	seq, err := readNumber(number)
	if err != nil {
		return err
	}
	return h.me.book.Drop(uid, seq)
}

// get tells an event as a text.
func (h *house) get(uid string) ([]string, error) {
	e, err := h.me.book.Get(uid)
	if err != nil {
		return nil, err
	}
	part, err := Export(e)
	if err != nil {
		return nil, err
	}
	s, err := text.Print(part)
	if err != nil {
		return nil, err
	}
	s = strings.ReplaceAll(s, "\r", "")
	return strings.Split(strings.TrimSuffix(s, "\n"), "\n"), nil
}

// uids tells the names of all events.
func (h *house) uids() ([]string, error) {
	return list(h.me.book.Uids(), func(uid string) string { return uid })
}

// split parts an event in two.
func (h *house) split(uid, at, as string) error {
	t, err := readTime(at)
	if err != nil {
		return err
	}
	return h.me.book.Split(uid, t, as)
}

// show tells what takes place by somebody's book.
func (h *house) show(whose *person, from, to string) ([]string, error) {
	begin, end, err := h.moments(from, to)
	if err != nil {
		return nil, err
	}
	all, err := whose.book.Between(begin, end)
	if err != nil {
		return nil, err
	}
	return list(all, func(o api.Occasion) string {
		return strings.Join([]string{h.shown(o.From), h.shown(o.To), o.Uid, o.Title}, " ")
	})
}

// moments are those of two times by one's clocks.
func (h *house) moments(from, to string) (begin, end api.Instant, err error) {
	if begin, err = h.moment(from); err != nil {
		return 0, 0, err
	}
	if end, err = h.moment(to); err != nil {
		return 0, 0, err
	}
	return begin, end, nil
}

// moment is that of a time by one's clocks.
func (h *house) moment(s string) (api.Instant, error) {
	t, err := readTime(s)
	if err != nil {
		return 0, err
	}
	return h.myClocks().Resolve(t, api.Early)
}

// shown is the time that one's clocks show.
func (h *house) shown(t api.Instant) string {
	const none = "-"
	l, err := h.myClocks().Local(t)
	if err != nil {
		return none
	}
	s, err := timeText(l)
	if err != nil {
		return none
	}
	return s
}
