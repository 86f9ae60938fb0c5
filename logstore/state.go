package logstore

import (
	"strings"

	"carillon/api"
	"carillon/codec"
	"carillon/crc"
	"carillon/segment"
)

// great is the greatest number of a manifest.
const great = 1<<53 - 1

// shape is that of a manifest's code: the low mark; Base and Gen of the first segment, and of each one behind it.
const shape = "lll*ll"

// state is what a log's manifest says, how many bytes its segments have, and where the records of the active one end.
type state struct {
	low      int
	segments []api.Segment // the last one is active; a changed state has a list of its own
	next     int           // the Offset of the active one's last record and 1; 0, if it has none
}

func (s *state) active() *api.Segment {
	return &s.segments[len(s.segments)-1]
}

// closedBelow tells how many closed segments, from the first one on, have no place for an Offset that is offset or more.
func (s *state) closedBelow(offset int) int {
	n := 0
	for n+1 < len(s.segments) && s.segments[n+1].Base <= offset {
		n++
	}
	return n
}

// fit tells whether these may be the records of the closed segment i.
func (s *state) fit(i int, recs []api.Record) bool {
	least := s.segments[i].Base
	for _, r := range recs {
		if !segment.Right(r) || r.Offset < least {
			return false
		}
		least = r.Offset + 1
	}
	return least <= s.segments[i+1].Base
}

// textOf tells right records as bytes, one behind the other.
func textOf(recs []api.Record) string {
	var b strings.Builder
	for _, r := range recs {
		one, _ := segment.One(r)
		b.WriteString(one)
	}
	return b.String()
}

// manifest tells the bytes of a state's manifest.
func (s *state) manifest() string {
	items := []api.Item{long(s.low)}
	for _, x := range s.segments {
		items = append(items, long(x.Base), long(x.Gen))
	}
	code, _ := codec.Encode(items) // each segment has a file: a disk has too few for too long a code, or frame
	text, _ := crc.Frame(code)
	return text
}

func long(n int) api.Item {
	return api.Item{Kind: api.ILong, N: uint64(n)}
}

// stateOf tells what a manifest says; false, if it is not of its form.
func stateOf(text string) (state, bool) {
	body, size, err := crc.Take(text)
	if err != api.OK || size != len(text) {
		return state{}, false
	}
	items, err := codec.Decode(shape, body)
	if err != api.OK {
		return state{}, false
	}
	for _, x := range items {
		if x.N > great {
			return state{}, false
		}
	}
	s := state{low: int(items[0].N)}
	for items = items[1:]; len(items) > 0; items = items[2:] {
		s.segments = append(s.segments, api.Segment{Base: int(items[0].N), Gen: int(items[1].N)})
	}
	return s, s.rises()
}

// rises tells whether the Bases rise, the first one from the low mark or below it.
func (s *state) rises() bool {
	for i := 1; i < len(s.segments); i++ {
		if s.segments[i].Base <= s.segments[i-1].Base {
			return false
		}
	}
	return s.segments[0].Base <= s.low
}
