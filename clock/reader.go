package clock

import (
	"almanac/api"
)

// reader goes through a text from the left on.
type reader struct {
	text string
	at   int // the byte that is read next
}

// fault says that the next byte can't stand there, or that the text ends there.
func (r *reader) fault() error { return &api.At{Err: api.ErrForm, Place: r.at} }

// isNext says whether b is the next byte.
func (r *reader) isNext(b byte) bool { return r.at < len(r.text) && r.text[r.at] == b }

// skip goes past b, if it is the next byte.
func (r *reader) skip(b byte) bool {
	is := r.isNext(b)
	if is {
		r.at++
	}
	return is
}

// want goes past b, which must be the next byte.
func (r *reader) want(b byte) error {
	if !r.skip(b) {
		return r.fault()
	}
	return nil
}

// wantIf goes past b, which must be the next byte if it is asked for.
func (r *reader) wantIf(asked bool, b byte) error {
	if !asked {
		return nil
	}
	return r.want(b)
}

// end asks for the text's end.
func (r *reader) end() error {
	if r.at < len(r.text) {
		return r.fault()
	}
	return nil
}

// run is how many digits are next, from the next byte on.
func (r *reader) run() int {
	n := 0
	for n < len(r.text)-r.at && isDigit(r.text[r.at+n]) {
		n++
	}
	return n
}

func isDigit(b byte) bool { return b >= '0' && b <= '9' }

// number reads just so many digits.
func (r *reader) number(digits int) (int, error) {
	n := 0
	for range digits {
		if r.at >= len(r.text) || !isDigit(r.text[r.at]) {
			return 0, r.fault()
		}
		n = 10*n + int(r.text[r.at]-'0')
		r.at++
	}
	return n, nil
}
