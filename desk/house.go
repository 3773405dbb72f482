package desk

import (
	"slices"

	"almanac/api"
	"almanac/book"
	"almanac/text"
	"almanac/zone"
)

// maxPeople is how many may live in a house.
const maxPeople = 60

// house is where people share their books.
type house struct {
	people map[string]*person
	me     *person               // the one by whom all is done; nobody, as long as none was named
	zones  *book.Book            // has all zones, and no events
	clocks map[string]*zone.Zone // of all zones, as they were told last
	texts  []zoneText            // of all zones
}

// noZone is the name of the zone of offset 0, which no zone that is told can have.
const noZone = ""

// zoneText is a zone as it was told, for the books of those who come later.
type zoneText struct{ name, text string }

// person is somebody who lives there.
type person struct {
	name    string
	book    *book.Book
	here    string                    // the zone by whose clocks they tell times, and are told them
	shares  map[string]int            // how much others may see, by their names
	inbox   []letter                  // what is not answered
	invited map[string]map[string]int // what others answered: by the event's name, and theirs
}

// letter is an event that somebody told somebody.
type letter struct {
	from  string
	event api.Event
}

// newHouse has nobody.
func newHouse() *house {
	// There always is a zone of offset 0.
	zero, _ := zone.Fixed(0)
	return &house{people: map[string]*person{}, zones: book.New(), clocks: map[string]*zone.Zone{noZone: zero}}
}

// person is somebody of a name.
func (h *house) person(name string) (*person, error) {
	p, ok := h.people[name]
	if !ok {
		return nil, api.ErrMissing
	}
	return p, nil
}

// enter adds somebody with an empty book.
func (h *house) enter(name string) error {
	if !book.Name(name) {
		return api.ErrName
	}
	if _, ok := h.people[name]; ok {
		return api.ErrExists
	}
	if len(h.people) >= maxPeople {
		return api.ErrLimit
	}
	p := &person{name: name, book: book.New(), here: noZone, shares: map[string]int{}, invited: map[string]map[string]int{}}
	for _, z := range h.texts {
		if err := p.book.SetZone(z.name, z.text); err != nil {
			return err
		}
	}
	h.people[name] = p
	return nil
}

// setZone adds a zone to all books.
func (h *house) setZone(name, block string) error {
	if err := h.zones.SetZone(name, block); err != nil {
		return err
	}
	clocks, err := h.zones.Zone(name)
	if err != nil {
		return err
	}
	h.clocks[name] = clocks
	for _, p := range h.people {
		if err := p.book.SetZone(name, block); err != nil {
			return err
		}
	}
	// Each zone is kept once only, as it was told last.
	h.texts = slices.DeleteFunc(h.texts, func(z zoneText) bool { return z.name == name })
	h.texts = append(h.texts, zoneText{name: name, text: block})
	return nil
}

// as names the one by whom all that follows is done.
func (h *house) as(name string) error {
	p, err := h.person(name)
	if err != nil {
		return err
	}
	h.me = p
	return nil
}

// here says by which zone's clocks somebody tells times, and is told them. The name is kept, not the clocks: the zone may be set anew.
func (h *house) here(name string) error {
	if name == "-" {
		name = noZone
	}
	if _, ok := h.clocks[name]; !ok {
		return api.ErrMissing
	}
	h.me.here = name
	return nil
}

// myClocks are those of one's zone, as it is now.
func (h *house) myClocks() *zone.Zone { return h.clocks[h.me.here] }

// put puts an event into one's book.
func (h *house) put(block string) error {
	part, err := text.Parse(block)
	if err != nil {
		return err
	}
	e, err := Import(part)
	if err != nil {
		return err
	}
	return h.me.book.Put(e)
}
