package desk

import (
	"strings"

	"almanac/api"
	"almanac/busy"
)

// How much somebody may see of a book.
const (
	showsNone = iota
	showsTimes
	showsAll
)

// share says how much somebody may see of one's book.
func (h *house) share(name, what string) error {
	who, err := h.person(name)
	if err != nil {
		return err
	}
	much := showsNone
	switch what {
	case "none":
	case "times":
		much = showsTimes
	case "all":
		much = showsAll
	default:
		return api.ErrForm
	}
	if who == h.me {
		return api.ErrState
	}
	h.me.shares[name] = much
	return nil
}

// seen is somebody of whose book one may see something, and how much.
func (h *house) seen(name string) (who *person, much int, err error) {
	who, err = h.person(name)
	if err != nil {
		return nil, showsNone, err
	}
	if who == h.me {
		return who, showsAll, nil
	}
	much = who.shares[h.me.name]
	if much == showsNone {
		return nil, showsNone, api.ErrAccess
	}
	return who, much, nil
}

// look tells what one may see of somebody's book.
func (h *house) look(name, from, to string) ([]string, error) {
	who, much, err := h.seen(name)
	if err != nil {
		return nil, err
	}
	if much == showsAll {
		return h.show(who, from, to)
	}
	begin, end, err := h.moments(from, to)
	if err != nil {
		return nil, err
	}
	taken, err := busy.Of(who.book, begin, end)
	if err != nil {
		return nil, err
	}
	return list(taken.Spans(), func(s api.Span) string {
		return strings.Join([]string{h.shown(api.Instant(s.From)), h.shown(api.Instant(s.To))}, " ")
	})
}
