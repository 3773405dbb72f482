package text

import (
	"strings"

	"almanac/api"
)

// Print writes a part.
func Print(p api.Part) (string, error) {
	if err := Check(p); err != nil {
		return "", err
	}
	return string(appendPart(nil, p)), nil
}

// appendPart writes a part behind what there is.
func appendPart(to []byte, p api.Part) []byte {
	to = append(to, Fold(begin+":"+p.Name)...)
	for _, l := range p.Lines {
		to = append(to, Fold(lineText(l))...)
	}
	for _, inner := range p.Parts {
		to = appendPart(to, inner)
	}
	return append(to, Fold(end+":"+p.Name)...)
}

func lineText(l api.Line) string {
	text := []byte(l.Name)
	for _, p := range l.Params {
		text = append(text, ';')
		text = append(text, p.Name...)
		mark := byte('=')
		for _, v := range p.Values {
			text = append(text, mark)
			text = append(text, quoted(v)...)
			mark = ','
		}
	}
	text = append(text, ':')
	return string(append(text, l.Value...))
}

// quoted is a param's value, so written that nothing in it ends it.
func quoted(value string) string {
	if strings.ContainsAny(value, ",;:") {
		return `"` + value + `"`
	}
	return value
}
