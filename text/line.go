package text

import (
	"strings"

	"almanac/api"
)

// reader goes through a line from the left on.
type reader struct {
	rest string
	mark byte // the one up to which it read last
}

// upTo reads up to the first of some marks, and goes past that; ok: there is one.
func (r *reader) upTo(marks string) (read string, ok bool) {
	i := strings.IndexAny(r.rest, marks)
	if i < 0 {
		return "", false
	}
	read, r.mark, r.rest = r.rest[:i], r.rest[i], r.rest[i+1:]
	return read, true
}

// readLine reads a line.
func readLine(line string) (api.Line, error) {
	r := reader{rest: line}
	text, ok := r.upTo(";:")
	if !ok {
		return api.Line{}, api.ErrForm
	}
	name, err := readName(text)
	if err != nil {
		return api.Line{}, err
	}
	l := api.Line{Name: name}
	for r.mark == ';' {
		p, err := r.param()
		if err != nil {
			return api.Line{}, err
		}
		l.Params = append(l.Params, p)
	}
	if hasControl(r.rest) {
		return api.Line{}, api.ErrForm
	}
	l.Value = r.rest
	return l, nil
}

// param reads a param, and the mark behind it.
func (r *reader) param() (api.Param, error) {
	// What stands behind a ; or : is of the param no more: an = there is not its own.
	text, ok := r.upTo("=;:")
	if !ok || r.mark != '=' {
		return api.Param{}, api.ErrForm
	}
	name, err := readName(text)
	if err != nil {
		return api.Param{}, err
	}
	p := api.Param{Name: name}
	for more := true; more; more = r.mark == ',' {
		value, err := r.value()
		if err != nil {
			return api.Param{}, err
		}
		p.Values = append(p.Values, value)
	}
	return p, nil
}

// value reads a param's value, and the mark behind it.
func (r *reader) value() (string, error) {
	const behind = ",;:"
	rest, isQuoted := strings.CutPrefix(r.rest, `"`)
	if !isQuoted {
		value, ok := r.upTo(behind)
		if !ok || !isParamValue(value) {
			return "", api.ErrForm
		}
		return value, nil
	}
	r.rest = rest
	value, ok := r.upTo(`"`)
	if !ok || !isParamValue(value) {
		return "", api.ErrForm
	}
	if between, ok := r.upTo(behind); !ok || between != "" {
		return "", api.ErrForm
	}
	return value, nil
}

// readName reads a name, which may be in small letters.
func readName(text string) (string, error) {
	name := []byte(text)
	for i, b := range name {
		if b >= 'a' && b <= 'z' {
			name[i] = b - 'a' + 'A'
		}
	}
	if !isName(string(name)) {
		return "", api.ErrName
	}
	return string(name), nil
}
