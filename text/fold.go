package text

import (
	"strings"

	"almanac/api"
)

// Fold writes a line as several, of 75 bytes at most, of which all but the first one begin with a blank; each ends with a return and a line feed.
func Fold(line string) string {
	var text []byte
	room := api.MaxFold
	for {
		n := cut(line, room)
		text = append(text, line[:n]...)
		text = append(text, "\r\n"...)
		line = line[n:]
		if line == "" {
			return string(text)
		}
		text = append(text, ' ')
		room = api.MaxFold - len(" ")
	}
}

// cut is how many of a line's bytes stand in its next piece, which has room for so many.
func cut(line string, room int) int {
	if len(line) <= room {
		return len(line)
	}
	// No character goes on for more bytes than that.
	const most = 3
	for n := room; n >= room-most; n-- {
		if !goesOn(line[n]) {
			return n
		}
	}
	return room
}

// goesOn says whether a character goes on with this byte.
func goesOn(b byte) bool { return b >= 0x80 && b <= 0xbf }

// Unfold tells the lines of a text: what begins with a blank or a tab goes on with the line ahead.
func Unfold(text string) []string {
	var lines [][]byte
	for text != "" {
		var piece string
		piece, text, _ = strings.Cut(text, "\n")
		piece = strings.TrimSuffix(piece, "\r")
		if last := len(lines) - 1; last >= 0 && isFolded(piece) {
			lines[last] = append(lines[last], piece[1:]...)
			continue
		}
		lines = append(lines, []byte(piece))
	}
	var texts []string
	for _, line := range lines {
		texts = append(texts, string(line))
	}
	return texts
}

// isFolded says whether a piece of a text goes on with the line ahead.
func isFolded(piece string) bool { return piece != "" && (piece[0] == ' ' || piece[0] == '\t') }
