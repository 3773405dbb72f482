package text

import (
	"almanac/api"
)

// Parse reads a part, which is all of a text.
func Parse(text string) (api.Part, error) {
	if len(text) > api.MaxText {
		return api.Part{}, api.ErrLimit
	}
	lines := Unfold(text)
	if len(lines) > api.MaxLines {
		return api.Part{}, api.ErrLimit
	}
	var t tree
	for i, line := range lines {
		l, err := readLine(line)
		if err != nil {
			return api.Part{}, &api.At{Err: api.Tell(err), Place: i}
		}
		t.lines = append(t.lines, l)
	}
	p, err := t.whole()
	if err != nil {
		return api.Part{}, &api.At{Err: api.Tell(err), Place: t.at}
	}
	return p, nil
}

// tree makes a part of lines.
type tree struct {
	lines []api.Line
	at    int // the line that is next
}

// whole reads the part that all of the lines are.
func (t *tree) whole() (api.Part, error) {
	p, err := t.part(1)
	if err == nil && t.at < len(t.lines) {
		err = api.ErrForm
	}
	return p, err
}

// part reads a part, which is one of so many that stand within each other.
func (t *tree) part(depth int) (api.Part, error) {
	name, err := t.begin(depth)
	if err != nil {
		return api.Part{}, err
	}
	p := api.Part{Name: name}
	for t.at < len(t.lines) {
		switch l := t.lines[t.at]; {
		case l.Name == begin:
			inner, err := t.part(depth + 1)
			if err != nil {
				return api.Part{}, err
			}
			p.Parts = append(p.Parts, inner)
		case l.Name == end:
			return p, t.end(name)
		case len(p.Parts) > 0:
			return api.Part{}, api.ErrOrder
		default:
			p.Lines = append(p.Lines, l)
			t.at++
		}
	}
	return api.Part{}, api.ErrEmpty
}

// begin goes past the line with which a part begins, and tells the part's name.
func (t *tree) begin(depth int) (string, error) {
	if t.at == len(t.lines) {
		return "", api.ErrEmpty
	}
	l := t.lines[t.at]
	if l.Name != begin || len(l.Params) > 0 {
		return "", api.ErrForm
	}
	name, err := readName(l.Value)
	if err != nil {
		return "", err
	}
	if depth > api.MaxDepth {
		return "", api.ErrLimit
	}
	t.at++
	return name, nil
}

// end goes past the line with which the part of that name ends.
func (t *tree) end(name string) error {
	l := t.lines[t.at]
	if value, err := readName(l.Value); err != nil || value != name || len(l.Params) > 0 {
		return api.ErrForm
	}
	t.at++
	return nil
}
