package text

import (
	"almanac/api"
)

// Escape writes a text so that it may stand in a list.
func Escape(s string) string { return string(appendEscaped(nil, s)) }

// appendEscaped writes a text behind what there is.
func appendEscaped(to []byte, s string) []byte {
	for i := range len(s) {
		switch b := s[i]; b {
		case '\\', ',', ';':
			to = append(to, '\\', b)
		case '\n':
			to = append(to, `\n`...)
		default:
			to = append(to, b)
		}
	}
	return to
}

// Join writes a list.
func Join(l []string) string {
	var text []byte
	for i, s := range l {
		if i > 0 {
			text = append(text, ',')
		}
		text = appendEscaped(text, s)
	}
	return string(text)
}

// Items reads a list: texts that are written so, with commas between.
func Items(s string) ([]string, error) {
	var l []string
	var item []byte
	for i := 0; i < len(s); i++ {
		switch b := s[i]; b {
		case ',':
			l = append(l, string(item))
			item = nil
		case ';':
			return nil, &api.At{Err: api.ErrForm, Place: i}
		case '\\':
			meant, ok := escaped(s[i+1:])
			if !ok {
				return nil, &api.At{Err: api.ErrForm, Place: i}
			}
			item = append(item, meant)
			i++
		default:
			item = append(item, b)
		}
	}
	return append(l, string(item)), nil
}

// escaped is what the byte behind a \ stands for.
func escaped(behind string) (byte, bool) {
	if behind == "" {
		return 0, false
	}
	switch b := behind[0]; b {
	case '\\', ',', ';':
		return b, true
	case 'n', 'N':
		return '\n', true
	}
	return 0, false
}
