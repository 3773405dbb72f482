package desk_test

import (
	"cmp"
	"fmt"
	"math/rand"
	"regexp"
	"slices"
	"sort"
	"strings"
	"testing"

	"almanac/api"
	"almanac/book"
	"almanac/desk"
	"almanac/text"
	"almanac/zone"
)

// A model of 14.3: what was done is a list, from which all that is told of invitations and shares is found anew each time; what takes place is asked event by event.

type act struct {
	kind, by, to, uid, what string
	event                   api.Event
}

type modelHouse struct {
	names []string
	books map[string]*book.Book
	zones map[string]string
	here  map[string]string
	acts  []act
	me    string
}

// modelForms are the lines that there are.
var modelForms = []*regexp.Regexp{
	regexp.MustCompile(`^(user|zone|as|here|get|who) [^ ]*$`),
	regexp.MustCompile(`^(put|uids|inbox)$`),
	regexp.MustCompile(`^(drop|show|share|invite|yes|no) [^ ]* [^ ]*$`),
	regexp.MustCompile(`^(split|look) [^ ]* [^ ]* [^ ]*$`),
	regexp.MustCompile(`^meet [^ ]* [^ ]* [^ ]* [^ ]*( [^ ]*)*$`),
}

// fault is how an error is told.
func fault(n api.Errno) []string { return []string{wrong(n)} }

// done is what is told of an error, if there is one.
func done(err error) []string {
	if err != nil {
		return fault(api.Tell(err))
	}
	return []string{"ok"}
}

// answer is what a line is answered by.
func (m *modelHouse) answer(line, block string) []string {
	isForm := slices.ContainsFunc(modelForms, func(r *regexp.Regexp) bool { return r.MatchString(line) })
	w := strings.Split(line, " ")
	switch {
	case isForm && w[0] == "user":
		return m.user(w[1])
	case isForm && w[0] == "zone":
		return m.zone(w[1], block)
	case isForm && w[0] == "as":
		if !slices.Contains(m.names, w[1]) {
			return fault(api.ErrMissing)
		}
		m.me = w[1]
		return []string{"ok"}
	case m.me == "":
		return fault(api.ErrState)
	case !isForm:
		return fault(api.ErrForm)
	}
	lines := m.do(w, block)
	if len(lines) > 500 {
		return fault(api.ErrLimit)
	}
	return lines
}

func (m *modelHouse) user(name string) []string {
	switch {
	case !regexp.MustCompile(`^[A-Za-z0-9_./@-]{1,40}$`).MatchString(name):
		return fault(api.ErrName)
	case slices.Contains(m.names, name):
		return fault(api.ErrExists)
	case len(m.names) == 60:
		return fault(api.ErrLimit)
	}
	m.names = append(m.names, name)
	m.books[name] = book.New()
	for n, text := range m.zones {
		m.books[name].SetZone(n, text)
	}
	return []string{"ok"}
}

func (m *modelHouse) zone(name, block string) []string {
	if err := book.New().SetZone(name, block); err != nil {
		return done(err)
	}
	m.zones[name] = block
	for _, b := range m.books {
		b.SetZone(name, block)
	}
	return []string{"ok"}
}

// do is what a line is answered by that is one.
func (m *modelHouse) do(w []string, block string) []string {
	b := m.books[m.me]
	switch w[0] {
	case "here":
		if _, ok := m.zones[w[1]]; !ok && w[1] != "-" && w[1] != "" {
			return fault(api.ErrMissing)
		}
		m.here[m.me] = w[1]
		return []string{"ok"}
	case "put":
		p, err := text.Parse(block)
		if err != nil {
			return done(err)
		}
		e, n := modelImport(p)
		if n != api.OK {
			return fault(n)
		}
		return done(b.Put(e))
	case "drop":
		if !numberForm.MatchString(w[2]) {
			return fault(api.ErrForm)
		}
		var seq int
		fmt.Sscan(w[2], &seq)
		return done(b.Drop(w[1], seq))
	case "get":
		e, err := b.Get(w[1])
		if err != nil {
			return done(err)
		}
		return linesOf(e)
	case "uids":
		return counted(b.Uids())
	case "split":
		t, n := modelTime(w[2])
		if n != api.OK {
			return fault(n)
		}
		return done(b.Split(w[1], t, w[3]))
	case "show":
		return m.show(m.me, w[1], w[2], true)
	case "look":
		if n := m.sees(w[1]); n != api.OK {
			return fault(n)
		}
		return m.show(w[1], w[2], w[3], w[1] == m.me || m.shared(w[1], m.me) == "all")
	case "share":
		switch {
		case !slices.Contains(m.names, w[1]):
			return fault(api.ErrMissing)
		case !slices.Contains([]string{"none", "times", "all"}, w[2]):
			return fault(api.ErrForm)
		case w[1] == m.me:
			return fault(api.ErrState)
		}
		m.acts = append(m.acts, act{kind: "share", by: m.me, to: w[1], what: w[2]})
		return []string{"ok"}
	case "meet":
		return m.meet(w[1:])
	}
	return m.invitations(w)
}

// invitations are the lines that speak of these.
func (m *modelHouse) invitations(w []string) []string {
	b := m.books[m.me]
	switch w[0] {
	case "invite":
		e, err := b.Get(w[1])
		switch {
		case err != nil, !slices.Contains(m.names, w[2]):
			return fault(api.ErrMissing)
		case w[2] == m.me:
			return fault(api.ErrState)
		}
		m.acts = append(m.acts, act{kind: "invite", by: m.me, to: w[2], uid: w[1], event: e})
		return []string{"ok"}
	case "inbox":
		var lines []string
		for _, a := range m.letters(m.me) {
			lines = append(lines, fmt.Sprintf("%s %s %d %s", a.by, a.uid, a.event.Seq, a.event.Title))
		}
		return counted(lines)
	case "yes", "no":
		for _, a := range m.letters(m.me) {
			if a.by != w[1] || a.uid != w[2] {
				continue
			}
			if w[0] == "yes" {
				if err := b.Put(a.event); err != nil {
					return done(err)
				}
			}
			m.acts = append(m.acts, act{kind: "answer", by: m.me, to: a.by, uid: a.uid, what: w[0]})
			return []string{"ok"}
		}
		return fault(api.ErrMissing)
	}
	// who
	if _, err := b.Get(w[1]); err != nil {
		return done(err)
	}
	var lines []string
	for _, name := range m.names {
		if last := m.lastAnswer(name, w[1]); last != "" {
			lines = append(lines, name+" "+last)
		}
	}
	sort.Strings(lines)
	return counted(lines)
}

// counted are lines with their number ahead.
func counted(lines []string) []string { return append([]string{fmt.Sprint(len(lines))}, lines...) }

// letters are the invitations that somebody has not answered, in their places.
func (m *modelHouse) letters(name string) []act {
	var l []act
	for _, a := range m.acts {
		at := slices.IndexFunc(l, func(o act) bool {
			return o.uid == a.uid && (a.kind == "invite" && o.by == a.by || a.kind == "answer" && o.by == a.to)
		})
		switch {
		case a.kind == "invite" && a.to == name && at >= 0:
			l[at] = a
		case a.kind == "invite" && a.to == name:
			l = append(l, a)
		case a.kind == "answer" && a.by == name && at >= 0:
			l = slices.Delete(l, at, at+1)
		}
	}
	return l
}

// lastAnswer is what somebody answered last to me of an event, if they were ever invited.
func (m *modelHouse) lastAnswer(name, uid string) string {
	last := ""
	for _, a := range m.acts {
		switch {
		case a.uid != uid:
		case a.kind == "invite" && a.by == m.me && a.to == name:
			last = "?"
		case a.kind == "answer" && a.by == name && a.to == m.me:
			last = a.what
		}
	}
	return last
}

// shared is what somebody shares with somebody.
func (m *modelHouse) shared(by, to string) string {
	last := "none"
	for _, a := range m.acts {
		if a.kind == "share" && a.by == by && a.to == to {
			last = a.what
		}
	}
	return last
}

// sees says whether I may see something of somebody's book.
func (m *modelHouse) sees(name string) api.Errno {
	switch {
	case !slices.Contains(m.names, name):
		return api.ErrMissing
	case name != m.me && m.shared(name, m.me) == "none":
		return api.ErrAccess
	}
	return api.OK
}

// clocks are mine: those of the zone that I named last, read anew each time.
func (m *modelHouse) clocks() *zone.Zone {
	text := m.zones[m.here[m.me]]
	if here := m.here[m.me]; here == "-" || here == "" {
		text = plain
	}
	z, err := zone.Parse(text)
	if err != nil {
		panic(err)
	}
	return z
}

// moment is that of a time by my clocks.
func (m *modelHouse) moment(s string) (api.Instant, api.Errno) {
	l, n := modelTime(s)
	if n != api.OK {
		return 0, n
	}
	x, err := m.clocks().Resolve(l, api.Early)
	return x, api.Tell(err)
}

// shown is the time that my clocks show.
func (m *modelHouse) shown(x api.Instant) string {
	l, err := m.clocks().Local(x)
	if err != nil {
		return "-"
	}
	return compact(l)
}

// show tells what takes place by somebody's book, or when they can't.
func (m *modelHouse) show(whose, a, b string, all bool) []string {
	from, n := m.moment(a)
	if n != api.OK {
		return fault(n)
	}
	to, n := m.moment(b)
	if n != api.OK {
		return fault(n)
	}
	if _, err := m.books[whose].Between(from, to); err != nil {
		return done(err)
	}
	var lines []string
	if !all {
		for _, s := range m.taken(whose, from, to) {
			lines = append(lines, m.shown(api.Instant(s.From))+" "+m.shown(api.Instant(s.To)))
		}
		return counted(lines)
	}
	for _, o := range m.occasions(whose, from, to) {
		lines = append(lines, m.shown(o.From)+" "+m.shown(o.To)+" "+o.Uid+" "+o.Title)
	}
	return counted(lines)
}

// occasions are those of all events of somebody, asked one by one.
func (m *modelHouse) occasions(whose string, from, to api.Instant) []api.Occasion {
	var l []api.Occasion
	for _, uid := range m.books[whose].Uids() {
		some, err := m.books[whose].Of(uid, from, to)
		if err != nil {
			panic(err)
		}
		l = append(l, some...)
	}
	slices.SortStableFunc(l, func(a, b api.Occasion) int {
		return cmp.Or(cmp.Compare(a.From, b.From), cmp.Compare(a.To, b.To), cmp.Compare(a.Uid, b.Uid), cmp.Compare(a.At, b.At))
	})
	return l
}

// taken is when somebody can't, from end to end of an occasion.
func (m *modelHouse) taken(whose string, from, to api.Instant) []api.Span {
	ends := []api.Instant{from, to}
	var those []api.Occasion
	for _, o := range m.occasions(whose, from, to) {
		if !o.Free {
			those = append(those, o)
			ends = append(ends, min(max(o.From, from), to), min(max(o.To, from), to))
		}
	}
	slices.Sort(ends)
	var l []api.Span
	for i := range len(ends) - 1 {
		isTaken := slices.ContainsFunc(those, func(o api.Occasion) bool { return o.From <= ends[i] && ends[i] < o.To })
		if !isTaken || ends[i] == ends[i+1] {
			continue
		}
		if n := len(l); n > 0 && l[n-1].To == int(ends[i]) {
			l[n-1].To = int(ends[i+1])
		} else {
			l = append(l, api.Span{From: int(ends[i]), To: int(ends[i+1])})
		}
	}
	return l
}

// meet tells when I can meet others.
func (m *modelHouse) meet(w []string) []string {
	var lengths [2]int
	var faults [2]api.Errno
	for i := range lengths {
		if lengths[i], faults[i] = modelLength(w[i]); faults[i] != api.OK && !strings.HasPrefix(w[i], "P1Y") {
			return fault(faults[i])
		}
	}
	from, n := m.moment(w[2])
	if n != api.OK {
		return fault(n)
	}
	to, n := m.moment(w[3])
	if n = cmp.Or(n, faults[0], faults[1]); n != api.OK {
		return fault(n)
	}
	if to-from > api.MaxWindow {
		return fault(api.ErrLimit)
	}
	for _, name := range w[4:] {
		if n := m.sees(name); n != api.OK {
			return fault(n)
		}
	}
	length, step := api.Instant(lengths[0]), api.Instant(lengths[1])
	switch {
	case length < 1 || length > api.MaxLength || step < 1:
		return fault(api.ErrArg)
	case from > to:
		return fault(api.ErrRange)
	case (to-from)/step > 10_000:
		return fault(api.ErrLimit)
	}
	var spans []api.Span
	for _, name := range append([]string{m.me}, w[4:]...) {
		spans = append(spans, m.taken(name, from, to)...)
	}
	for x := from; x+length <= to; x += step {
		if !slices.ContainsFunc(spans, func(s api.Span) bool { return s.From < int(x+length) && int(x) < s.To }) {
			return []string{m.shown(x)}
		}
	}
	return fault(api.ErrNone)
}

// drawer draws lines of sessions.
type drawer struct{ *rand.Rand }

// of is one of some words.
func (d drawer) of(words ...string) string { return words[d.Intn(len(words))] }

func (d drawer) name() string {
	if d.Intn(10) == 0 {
		return d.of("dan", "", "n!")
	}
	return d.of("ann", "bob", "cy")
}

func (d drawer) uid() string {
	if d.Intn(10) == 0 {
		return d.of("z", "q", "")
	}
	return d.of("a", "b")
}

func (d drawer) time() string {
	if d.Intn(25) == 0 {
		return d.of("", "x", "2024-03-30T10:00:00", "20240231T000000", "20240330T100000Z", "20240330", "+129210819T000000", "20240330T240000")
	}
	return compact(d.local(7))
}

// local is a time of the last days of March 2024, often at nine.
func (d drawer) local(days int) api.Local {
	if d.Intn(2) == 0 {
		return local("20240328T090000") + api.Local(d.Intn(days)*api.Daily)
	}
	return local("20240328T000000") + api.Local(d.Intn(days*24*2)*1800)
}

// times are two, mostly in order.
func (d drawer) times() string {
	a, b := d.time(), d.time()
	if a > b && d.Intn(20) > 0 {
		a, b = b, a
	}
	return a + " " + b
}

func (d drawer) period() string {
	return d.of("PT1H", "PT30M", "PT15M", "PT2H", "P1D", "PT6H", "PT1H", "PT30M", "P1Y", "P0DT90M", "PT0S", "-PT1H", "x", "P1YT1H", "PT1S", "P900D")
}

// event is one that may mostly be.
func (d drawer) event() api.Event {
	e := api.Event{
		Uid: d.of("a", "a", "b", "b", "z"), Seq: d.Intn(12), Title: d.of("", "tea", "a, b; c", `\`), Zone: d.of("", "", "X", "Y", "Q"),
		Start: d.local(5), Length: d.Intn(9) * 1800, Free: d.Intn(4) == 0,
	}
	if d.Intn(2) == 0 {
		e.Repeats, e.Rule = true, ruleOf(d.of("FREQ=DAILY", "FREQ=DAILY;COUNT=3", "FREQ=HOURLY;INTERVAL=5", "FREQ=WEEKLY;BYDAY=MO,WE,SA"))
	}
	if d.Intn(4) == 0 {
		e.Out = []api.Local{e.Start + api.Daily}
	}
	if d.Intn(4) == 0 {
		e.In = []api.Local{e.Start + 3600, e.Start + api.Daily + 1800}
	}
	if d.Intn(4) == 0 {
		e.Others = []api.Other{{At: e.Start, Gone: true}, {At: e.Start + api.Daily, Start: e.Start + api.Daily + 7200, Length: 1800, Title: "other"}}
	}
	return e
}

// line is a line, with its block, if it has one.
func (d drawer) line() (line, block string) {
	switch d.Intn(40) {
	case 0:
		return "user " + d.name(), ""
	case 1:
		return "zone " + d.of("X", "Y", "Y", "-", "!"), d.of(central, eastern, plain, "era +05:30 -", "era", "")
	case 2, 3, 4, 5:
		return "as " + d.name(), ""
	case 6:
		return "here " + d.of("X", "Y", "-", "Q", ""), ""
	case 7, 8, 9, 10:
		lines := linesOf(d.event())
		if d.Intn(8) == 0 {
			i := d.Intn(len(lines))
			lines = slices.Delete(lines, i, i+1)
		}
		return "put", strings.Join(lines, "\n")
	case 11:
		return "drop " + d.uid() + " " + d.of("0", "1", "2", "3", "4", "9", "-1", "01", "x", ""), ""
	case 12:
		return "get " + d.uid(), ""
	case 13:
		return "uids", ""
	case 14, 15:
		return "split " + d.uid() + " " + d.time() + " " + d.uid(), ""
	case 16, 17, 18:
		return "show " + d.times(), ""
	case 19, 20:
		return "look " + d.name() + " " + d.times(), ""
	case 21, 22:
		return "share " + d.name() + " " + d.of("none", "times", "times", "all", "all", "x", ""), ""
	case 23, 24:
		return "invite " + d.uid() + " " + d.name(), ""
	case 25:
		return "inbox", ""
	case 26, 27:
		return d.of("yes ", "yes ", "no ") + d.name() + " " + d.uid(), ""
	case 28:
		return "who " + d.uid(), ""
	case 29, 30, 31:
		return "invite " + d.uid() + " " + d.name(), ""
	case 32, 33, 34:
		return d.of("yes ", "yes ", "no ") + d.name() + " " + d.uid(), ""
	case 35:
		return "inbox", ""
	case 36:
		return "who " + d.uid(), ""
	case 37:
		return d.of("", "x", ".", "uids ", "here", "show 1", "meet", "meet PT1H PT1H 20240328T000000", "put x", "zone", "user a b", "as"), ""
	}
	line = "meet " + d.period() + " " + d.period() + " " + d.times()
	for range d.Intn(3) {
		line += " " + d.name()
	}
	return line, ""
}

// TestSessionDrawn holds sessions against the model, line by line.
func TestSessionDrawn(t *testing.T) {
	d := drawer{rand.New(rand.NewSource(143))}
	seen := map[string]int{}
	for range 600 {
		m := &modelHouse{books: map[string]*book.Book{}, zones: map[string]string{}, here: map[string]string{}}
		var lines, want []string
		add := func(line, block string) {
			lines = append(lines, line)
			if word := strings.Split(line, " ")[0]; word == "zone" || word == "put" {
				lines = append(lines, strings.Split(block, "\n")...)
				lines = append(lines, ".")
			}
			answer := m.answer(line, block)
			want = append(want, answer...)
			seen[strings.Split(line, " ")[0]+" "+answer[0]]++
		}
		for _, line := range []string{"user ann", "user bob", "user cy"}[:3-d.Intn(8)/5] {
			add(line, "")
		}
		if d.Intn(8) > 0 {
			add("as ann", "")
			add("zone X", central)
		}
		for range 100 {
			add(d.line())
		}
		// An empty line at the end would be none.
		add("uids", "")
		wantSession(t, "14.3: a session", strings.Join(lines, "\n"), strings.Join(want, "\n")+"\n")
		if t.Failed() {
			return
		}
	}
	for _, one := range []string{"user ok", "user error 8", "user error 10", "zone ok", "zone error 9", "as ok", "as error 9", "here ok", "here error 9", "here error 18", "put ok", "put error 15",
		"put error 9", "put error 5", "drop ok", "drop error 15", "drop error 5", "get BEGIN:VCALENDAR", "get error 9", "uids 2", "split ok", "split error 18", "split error 10", "show 0", "show 3", "show error 4",
		"look 3", "look error 16", "look error 9", "look error 5", "share ok", "share error 5", "share error 18", "invite ok", "invite error 18", "inbox 2", "yes ok", "yes error 15", "no ok",
		"who 2", "who 0", "who error 9", "meet error 9", "meet error 16", "meet error 12", "meet error 1", "meet error 4", "meet error 6", "meet error 5", "meet error 3"} {
		if seen[one] < 3 {
			t.Errorf("too few lines that are answered so: %s: %d", one, seen[one])
		}
	}
}

// TestSessionAgain: what is answered hangs on the text alone.
func TestSessionAgain(t *testing.T) {
	d := drawer{rand.New(rand.NewSource(144))}
	for range 50 {
		lines := []string{"user ann", "user bob", "user cy", "as ann"}
		for range 80 {
			line, block := d.line()
			lines = append(lines, line)
			if strings.HasPrefix(line, "zone") || strings.HasPrefix(line, "put") {
				lines = append(lines, block, ".")
			}
		}
		s := strings.Join(lines, "\n")
		once := desk.Session(s)
		for range 3 {
			wantSession(t, "P4: a session once more", s, strings.TrimSuffix(once, "\n")+"\n")
		}
	}
}
