package book

import (
	"sync"

	"almanac/api"
	"almanac/zone"
)

// place is a zone, of which events are asked at once: but a zone is asked by one at a time.
type place struct {
	text string
	lock sync.Mutex
	zone *zone.Zone
}

// noOffset is the zone whose clocks show the moments themselves.
func noOffset() *place {
	const text = "era +00:00 -"
	z, _ := zone.Parse(text)
	return &place{text: text, zone: z}
}

// fresh is the zone, made anew for somebody who may do with it whatever they like.
func (p *place) fresh() (*zone.Zone, error) { return zone.Parse(p.text) }

// moments are those for which local times are taken, all of which are there.
func (p *place) moments(l []api.Local) []api.Instant {
	p.lock.Lock()
	defer p.lock.Unlock()
	moments := make([]api.Instant, len(l))
	for i, t := range l {
		moments[i], _ = p.zone.Resolve(t, api.Early)
	}
	return moments
}
