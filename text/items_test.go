package text_test

import (
	"math/rand"
	"regexp"
	"strings"
	"testing"

	"almanac/api"
	"almanac/text"
)

// Promise 9.2.

func TestEscape(t *testing.T) {
	for s, want := range map[string]string{
		"":                  ``,
		"a":                 `a`,
		`\`:                 `\\`,
		",":                 `\,`,
		";":                 `\;`,
		"\n":                `\n`,
		"\r\n":              "\r" + `\n`,
		`a\b,c;d`:           `a\\b\,c\;d`,
		"a\n\nb":            `a\n\nb`,
		`\n`:                `\\n`,
		`\\`:                `\\\\`,
		"N:=\"' \t\x00\x7f": "N:=\"' \t\x00\x7f",
		"é€\x80\xff":        "é€\x80\xff",
	} {
		wantValue(t, at("9.2: Escape(%q)", s), text.Escape(s), nil, want)
	}
	for b := range 256 {
		s := string([]byte{byte(b)})
		want := s
		switch b {
		case '\\', ',', ';':
			want = `\` + s
		case '\n':
			want = `\n`
		}
		wantValue(t, at("9.2: Escape(%q)", s), text.Escape(s), nil, want)
	}
}

func TestJoin(t *testing.T) {
	for _, c := range []struct {
		l    []string
		want string
	}{
		{nil, ""},
		{[]string{}, ""},
		{[]string{""}, ""},
		{[]string{"", ""}, ","},
		{[]string{"a"}, "a"},
		{[]string{"a", "b"}, "a,b"},
		{[]string{"a,b", "c"}, `a\,b,c`},
		{[]string{"", `\`, ";", "\n", ""}, `,\\,\;,\n,`},
	} {
		wantValue(t, at("9.2: Join(%q)", c.l), text.Join(c.l), nil, c.want)
	}
}

func TestItems(t *testing.T) {
	for s, want := range map[string][]string{
		``:                  {""},
		`a`:                 {"a"},
		`,`:                 {"", ""},
		`a,`:                {"a", ""},
		`,a`:                {"", "a"},
		`a,b,,c`:            {"a", "b", "", "c"},
		`a\,b`:              {"a,b"},
		`a\,b,c`:            {"a,b", "c"},
		`a\;b`:              {"a;b"},
		`a\nb\N`:            {"a\nb\n"},
		`\\`:                {`\`},
		`\\n`:               {`\n`},
		`\\,\\`:             {`\`, `\`},
		`\\\,`:              {`\,`},
		`\\\\,a`:            {`\\`, "a"},
		"a\nb\r\n":          {"a\nb\r\n"},
		"N:=\"\t\x00,é\xff": {"N:=\"\t\x00", "é\xff"},
		` a , b `:           {" a ", " b "},
	} {
		got, err := text.Items(s)
		wantValue(t, at("9.2: Items(%q)", s), got, err, want)
	}
}

// TestItemsFaults: the first byte that can't stand where it stands is told.
func TestItemsFaults(t *testing.T) {
	for s, place := range map[string]int{
		`;`:       0,
		`a;b`:     1,
		`a,b;`:    3,
		`\`:       0,
		`a\`:      1,
		`a,\`:     2,
		`\\\`:     2,
		`\x`:      0,
		`a\x,b;`:  1,
		`a;\x`:    1,
		`\;;`:     2,
		`\\;`:     2,
		`\n\r`:    2,
		`é,\é`:    3,
		`\,\"`:    2,
		`a\ ,`:    1,
		"a\\\n":   1,
		"\\\r\n":  0,
		`\0`:      0,
		"\\\x00":  0,
		"\\\xff":  0,
		`\n,\M,;`: 3,
	} {
		got, err := text.Items(s)
		wantPlace(t, at("9.2: Items(%q)", s), got, err, api.ErrForm, place)
	}
	for b := range 256 {
		s := `a,\` + string([]byte{byte(b)})
		got, err := text.Items(s)
		if strings.IndexByte(`\,;nN`, byte(b)) >= 0 {
			wantValue(t, at("9.2: Items(%q): its length", s), len(got), err, 2)
		} else {
			wantPlace(t, at("9.2: Items(%q)", s), got, err, api.ErrForm, 2)
		}
	}
}

// TestDrawnItems: a fault stands where the longest beginning ends that may be; without one Join and Items turn each other back.
func TestDrawnItems(t *testing.T) {
	good := regexp.MustCompile(`(?s)^(?:[^\\;]|\\[\\;,nN])*`)
	r := rand.New(rand.NewSource(95))
	faults := 0
	for range 100_000 {
		s := drawnText(r, 10, "a", "n", "N", ",", ",", `\\`, `\,`, `\;`, `\n`, `\N`, "\n", "é", "\xff", "b", `\`, ";")
		got, err := text.Items(s)
		if place := good.FindStringIndex(s)[1]; place < len(s) {
			faults++
			wantPlace(t, at("9.2: Items(%q)", s), got, err, api.ErrForm, place)
			continue
		}
		// A pair of \ is gone past whole.
		want := strings.NewReplacer(`\\`, `\\`, "\n", `\n`, `\N`, `\n`).Replace(s)
		wantValue(t, at("9.2: Join of Items(%q)", s), text.Join(got), err, want)
	}
	if faults < 1000 {
		t.Errorf("only %d texts had a fault", faults)
	}
}

// TestDrawnJoin: Items of Join is what it was, if there is something.
func TestDrawnJoin(t *testing.T) {
	r := rand.New(rand.NewSource(96))
	for range 50_000 {
		var l []string
		for range 1 + r.Intn(4) {
			l = append(l, drawnText(r, 6, "a", "n", ",", `\`, ";", "\n", "\r", "é", "\x80", "\x00"))
		}
		joined := text.Join(l)
		got, err := text.Items(joined)
		wantValue(t, at("9.2: Items(%q)", joined), got, err, l)
		var escaped []string
		for _, s := range l {
			escaped = append(escaped, text.Escape(s))
		}
		wantValue(t, at("9.2: Join(%q)", l), joined, nil, strings.Join(escaped, ","))
	}
}
