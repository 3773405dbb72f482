package zone

import (
	"iter"
	"strings"

	"almanac/api"
)

// Parse reads a zone.
func Parse(text string) (*Zone, error) {
	if len(text) > api.MaxText {
		return nil, api.ErrLimit
	}
	z := &Zone{}
	for place, words := range lines(text) {
		if err := z.read(words); err != nil {
			return nil, &api.At{Err: api.Tell(err), Place: place}
		}
	}
	if err := z.checkWhole(); err != nil {
		return nil, &api.At{Err: api.Tell(err), Place: len(text)}
	}
	return z, nil
}

// lines goes through the lines of a text that have words: a line's first byte, and its words.
func lines(text string) iter.Seq2[int, []string] {
	return func(yield func(int, []string) bool) {
		rest, more := text, true
		for more {
			var line string
			place := len(text) - len(rest)
			line, rest, more = strings.Cut(rest, "\n")
			words := strings.FieldsFunc(line, isBetween)
			if len(words) > 0 && !yield(place, words) {
				return
			}
		}
	}
}

// isBetween says whether this stands between words.
func isBetween(r rune) bool { return r == ' ' || r == '\t' || r == '\r' }

// read reads a line.
func (z *Zone) read(words []string) error {
	switch words[0] {
	case "rule":
		return z.readRule(words)
	case "era":
		return z.readEra(words)
	}
	return api.ErrForm
}

// manyWords is how many words a rule has, and an era that ends; fewWords, how many an era has that doesn't.
const (
	manyWords = 8
	fewWords  = 3
)

func (z *Zone) readRule(words []string) error {
	if len(words) != manyWords {
		return api.ErrForm
	}
	r, err := ruleOf(words[1:])
	if err != nil {
		return err
	}
	if len(z.rules) == api.MaxRules {
		return api.ErrLimit
	}
	z.rules = append(z.rules, r)
	return nil
}

func (z *Zone) readEra(words []string) error {
	if len(z.eras) > 0 && !z.lastEra().ends {
		return api.ErrOrder
	}
	if len(words) != fewWords && (len(words) != manyWords || words[fewWords] != "until") {
		return api.ErrForm
	}
	e, err := eraOf(words[1:])
	if err != nil {
		return err
	}
	if e.ends && len(z.eras) > 0 && e.until.shown <= z.lastEra().until.shown {
		return api.ErrOrder
	}
	if len(z.eras) == api.MaxEras {
		return api.ErrLimit
	}
	z.eras = append(z.eras, e)
	return nil
}

// lastEra is the last one of those that there are.
func (z *Zone) lastEra() era { return z.eras[len(z.eras)-1] }

// checkWhole tells whether all is there that the lines need.
func (z *Zone) checkWhole() error {
	if len(z.eras) == 0 || z.lastEra().ends {
		return api.ErrMissing
	}
	for _, e := range z.eras {
		if e.rules != noRules && !z.hasRules(e.rules) {
			return api.ErrName
		}
	}
	return nil
}

// hasRules says whether there are rules of a name.
func (z *Zone) hasRules(name string) bool {
	for _, r := range z.rules {
		if r.name == name {
			return true
		}
	}
	return false
}
