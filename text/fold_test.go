package text_test

import (
	"math/rand"
	"reflect"
	"regexp"
	"strings"
	"testing"
	"unicode/utf8"

	"almanac/api"
	"almanac/text"
)

// Promise 9.1.

// x is so many bytes.
func x(many int) string { return strings.Repeat("x", many) }

func TestFold(t *testing.T) {
	for line, want := range map[string]string{
		"":                   "\r\n",
		"a":                  "a\r\n",
		" a":                 " a\r\n",
		"a\r\n\tb":           "a\r\n\tb\r\n",
		x(75):                x(75) + "\r\n",
		x(76):                x(75) + "\r\n x\r\n",
		x(75) + " ":          x(75) + "\r\n  \r\n",
		x(149):               x(75) + "\r\n " + x(74) + "\r\n",
		x(150):               x(75) + "\r\n " + x(74) + "\r\n x\r\n",
		x(75 + 74 + 74 + 73): x(75) + "\r\n " + x(74) + "\r\n " + x(74) + "\r\n " + x(73) + "\r\n",

		// A line that fits is not asked for its characters.
		x(73) + "é": x(73) + "é\r\n",
		x(74) + "é": x(74) + "\r\n é\r\n",
		x(75) + "é": x(75) + "\r\n é\r\n",

		x(72) + "€":          x(72) + "€\r\n",
		x(73) + "€":          x(73) + "\r\n €\r\n",
		x(74) + "€":          x(74) + "\r\n €\r\n",
		x(71) + "\U0001f600": x(71) + "\U0001f600\r\n",
		x(72) + "\U0001f600": x(72) + "\r\n \U0001f600\r\n",
		x(73) + "\U0001f600": x(73) + "\r\n \U0001f600\r\n",
		x(74) + "\U0001f600": x(74) + "\r\n \U0001f600\r\n",

		// In a piece with a blank there is room for one byte less.
		x(75) + x(73) + "é":          x(75) + "\r\n " + x(73) + "\r\n é\r\n",
		x(75) + x(72) + "é":          x(75) + "\r\n " + x(72) + "é\r\n",
		x(75) + x(71) + "\U0001f600": x(75) + "\r\n " + x(71) + "\r\n \U0001f600\r\n",

		// What goes on for longer than a character can is cut where the room ends.
		x(72) + "\xf0\x80\x80\x80":                    x(72) + "\r\n \xf0\x80\x80\x80\r\n",
		x(71) + "\xf0\x80\x80\x80\x80":                x(71) + "\xf0\x80\x80\x80\r\n \x80\r\n",
		x(71) + "\xf0\xbf\xbf\xbf\xbf" + x(70) + "éé": x(71) + "\xf0\xbf\xbf\xbf\r\n \xbf" + x(70) + "é\r\n é\r\n",
		x(74) + "\x7f\x7f":                            x(74) + "\x7f\r\n \x7f\r\n",
		x(74) + "\x7f\xc0":                            x(74) + "\x7f\r\n \xc0\r\n",
		x(74) + "a\x80":                               x(74) + "\r\n a\x80\r\n",
		x(74) + "a\xbf":                               x(74) + "\r\n a\xbf\r\n",
		strings.Repeat("\x80", 76):                    strings.Repeat("\x80", 75) + "\r\n \x80\r\n",
	} {
		wantValue(t, at("9.1: Fold(%q)", line), text.Fold(line), nil, want)
	}
}

// wantPieces holds the pieces of a line against what 9.1 says of each.
func wantPieces(t *testing.T, line string) {
	t.Helper()
	folded := text.Fold(line)
	pieces := strings.SplitAfter(folded, "\r\n")
	pieces = pieces[:len(pieces)-1]
	rest, room := line, 75
	for i, piece := range pieces {
		piece = strings.TrimSuffix(piece, "\r\n")
		if i > 0 {
			if !strings.HasPrefix(piece, " ") {
				t.Fatalf("9.1: Fold(%q): piece %d is %q, without a blank", line, i, piece)
			}
			piece, room = piece[1:], 74
		}
		if !strings.HasPrefix(rest, piece) || len(piece) != long(rest, room) {
			t.Fatalf("9.1: Fold(%q): piece %d is %q, of %q", line, i, piece, rest)
		}
		rest = rest[len(piece):]
	}
	if rest != "" || strings.Join(pieces, "") != folded {
		t.Fatalf("9.1: Fold(%q): %q", line, folded)
	}
}

// long is how long the next piece of a line is to be.
func long(rest string, room int) int {
	if len(rest) <= room {
		return len(rest)
	}
	goesOn := regexp.MustCompile(`[\x{80}-\x{bf}]`)
	for less := range 4 {
		// Each byte as the character of that number.
		if !goesOn.MatchString(string(rune(rest[room-less]))) {
			return room - less
		}
	}
	return room
}

func TestPieces(t *testing.T) {
	r := rand.New(rand.NewSource(91))
	for range 3000 {
		wantPieces(t, drawnText(r, 400, "a", "b", " ", "\t", "é", "€", "\U0001f600"))
		wantPieces(t, drawnText(r, 400, "a", "\x80", "\xbf", "\xc3", "\xff", "\xf0\x90"))
		wantPieces(t, drawnText(r, 20, x(30), "\x80\x80\x80", "\x80", "\xf0"))
	}
}

// TestWholeCharacters: no character of a text that is well formed is parted, and no piece has room for one more.
func TestWholeCharacters(t *testing.T) {
	r := rand.New(rand.NewSource(92))
	for range 2000 {
		line := drawnText(r, 300, "a", "é", "€", "\U0001f600")
		pieces := strings.Split(strings.TrimSuffix(text.Fold(line), "\r\n"), "\r\n ")
		for i, piece := range pieces {
			room := 75 - min(i, 1)
			if !utf8.ValidString(piece) || len(piece) > room {
				t.Fatalf("9.1: Fold(%q): piece %d is %q", line, i, piece)
			}
			if i+1 < len(pieces) {
				if _, next := utf8.DecodeRuneInString(pieces[i+1]); len(piece)+next <= room {
					t.Fatalf("9.1: Fold(%q): piece %d is %q, with room for more", line, i, piece)
				}
			}
		}
	}
}

func TestUnfold(t *testing.T) {
	for s, want := range map[string][]string{
		"":                   nil,
		"a":                  {"a"},
		"a\n":                {"a"},
		"a\r\n":              {"a"},
		"a\r":                {"a"},
		"a\r\r\n":            {"a\r"},
		"\n":                 {""},
		"\r\n":               {""},
		"\r":                 {""},
		"\n\n":               {"", ""},
		"\n\r":               {"", ""},
		"a\nb":               {"a", "b"},
		"a\r\nb\r\n":         {"a", "b"},
		"a\n\nb":             {"a", "", "b"},
		"a\rb":               {"a\rb"},
		"a\n b":              {"ab"},
		"a\n\tb":             {"ab"},
		"a\r\n b\r\n\tc":     {"abc"},
		"a\n  b":             {"a b"},
		"a\n\t\tb":           {"a\tb"},
		"a\n \t b\n":         {"a\t b"},
		"a\n \n b":           {"ab"},
		"a\n ":               {"a"},
		"a\n \r":             {"a"},
		"a\r\r\n b":          {"a\rb"},
		"a\n \r\r\n b":       {"a\rb"},
		"\n a":               {"a"},
		"\n a\nb":            {"a", "b"},
		" a":                 {" a"},
		"\ta":                {"\ta"},
		" a\n b":             {" ab"},
		" \n a":              {" a"},
		" ":                  {" "},
		"a\n\v b":            {"a", "\v b"},
		"a\n\u00a0b":         {"a", "\u00a0b"},
		"a\n\r b":            {"a", "\r b"},
		"a\x00\n\xff\n \x80": {"a\x00", "\xff\x80"},
	} {
		wantValue(t, at("9.1: Unfold(%q)", s), text.Unfold(s), nil, want)
	}
}

// unfolded is what Unfold is to answer: what ends lines is made one, what is folded is put together, then all is parted.
func unfolded(s string) []string {
	if s == "" {
		return nil
	}
	if !strings.HasSuffix(s, "\n") {
		s += "\n"
	}
	s = strings.TrimSuffix(strings.ReplaceAll(s, "\r\n", "\n"), "\n")
	return strings.Split(strings.NewReplacer("\n ", "", "\n\t", "").Replace(s), "\n")
}

func TestDrawnUnfold(t *testing.T) {
	r := rand.New(rand.NewSource(93))
	for range 100_000 {
		s := drawnText(r, 12, "a", "b", "\r", "\n", "\r\n", " ", "\t", "\n ")
		wantValue(t, at("9.1: Unfold(%q)", s), text.Unfold(s), nil, unfolded(s))
	}
}

// TestFoldedLines: lines that are folded, one behind the other, are these lines again.
func TestFoldedLines(t *testing.T) {
	r := rand.New(rand.NewSource(94))
	for range 2000 {
		var lines []string
		var all strings.Builder
		for range 1 + r.Intn(4) {
			line := "x" + drawnText(r, 200, "a", " ", "\t", "\r", "é", "€", "\x80", "\x00")
			lines = append(lines, line)
			all.WriteString(text.Fold(line))
		}
		wantValue(t, at("9.1: Unfold of %q", all.String()), text.Unfold(all.String()), nil, lines)
	}
	for _, line := range []string{"", " ", "\t\t", " a" + x(100), "\r", "\r\r" + x(73) + "\r\r"} {
		wantValue(t, at("9.1: Unfold of Fold(%q)", line), text.Unfold(text.Fold(line)), nil, []string{line})
	}
}

// TestLongLines: a line, and how often it is folded, may be as long as one likes.
func TestLongLines(t *testing.T) {
	line := "a" + strings.Repeat(" €\xff", 1_000_000)
	wantPieces(t, line[:100*api.MaxFold])
	if got := text.Unfold(text.Fold(line)); len(got) != 1 || got[0] != line {
		t.Errorf("9.1: a long line is not what it was")
	}
	if got := text.Unfold(strings.Repeat(" a\n", 1_000_000)); len(got) != 1 || got[0] != " "+strings.Repeat("a", 1_000_000) {
		t.Errorf("9.1: a line that goes on often is not what it should be")
	}
}

// TestFreshLines: lines that are answered are the caller's.
func TestFreshLines(t *testing.T) {
	first, second := text.Unfold("a\n b\nc\n"), text.Unfold("a\n b\nc\n")
	first[0], first[1] = "x", "y"
	if want := []string{"ab", "c"}; !reflect.DeepEqual(second, want) {
		t.Errorf("P4: lines are %q, not %q", second, want)
	}
}
