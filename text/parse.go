package text

import (
	"almanac/api"
)

// Parse reads a part, which is all of a text.
func Parse(text string) (api.Part, error) {
	if len(text) > api.MaxText {
		return api.Part{}, api.ErrLimit
	}
	lines := Unfold(text)
	if len(lines) > api.MaxLines {
		return api.Part{}, api.ErrLimit
	}
	t := tree{lines: lines}
	p, err := t.whole()
	if err != nil {
		return api.Part{}, &api.At{Err: api.Tell(err), Place: t.at}
	}
	return p, nil
}

// tree makes a part of lines. It reads a line only when it comes to it: so the first line that has a fault is told, whatever that fault is.
type tree struct {
	lines []string
	at    int // the line to which it has come
}

// whole reads the part that all of the lines are.
func (t *tree) whole() (api.Part, error) {
	first, err := t.line()
	if err != nil {
		return api.Part{}, err
	}
	p, err := t.part(first, 1)
	if err != nil {
		return api.Part{}, err
	}
	if t.at++; t.at == len(t.lines) {
		return p, nil
	}
	if _, err := t.line(); err != nil {
		return api.Part{}, err
	}
	return api.Part{}, api.ErrForm
}

// line reads the line to which it has come.
func (t *tree) line() (api.Line, error) {
	if t.at == len(t.lines) {
		return api.Line{}, api.ErrEmpty
	}
	return readLine(t.lines[t.at])
}

// part reads a part up to its last line: one of so many that stand within each other.
func (t *tree) part(first api.Line, depth int) (api.Part, error) {
	name, err := beginOf(first, depth)
	if err != nil {
		return api.Part{}, err
	}
	p := api.Part{Name: name}
	for {
		t.at++
		l, err := t.line()
		if err != nil {
			return api.Part{}, err
		}
		switch {
		case l.Name == begin:
			inner, err := t.part(l, depth+1)
			if err != nil {
				return api.Part{}, err
			}
			p.Parts = append(p.Parts, inner)
		case l.Name == end:
			return p, checkEnd(l, name)
		case len(p.Parts) > 0:
			return api.Part{}, api.ErrOrder
		default:
			p.Lines = append(p.Lines, l)
		}
	}
}

// beginOf tells the name of the part that begins with a line.
func beginOf(l api.Line, depth int) (string, error) {
	if l.Name != begin || len(l.Params) > 0 {
		return "", api.ErrForm
	}
	name, err := readName(l.Value)
	if err != nil {
		return "", err
	}
	if depth > api.MaxDepth {
		return "", api.ErrLimit
	}
	return name, nil
}

// checkEnd says whether the part of that name may end with a line.
func checkEnd(l api.Line, name string) error {
	if value, err := readName(l.Value); err != nil || value != name || len(l.Params) > 0 {
		return api.ErrForm
	}
	return nil
}
