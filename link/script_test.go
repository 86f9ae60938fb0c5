package link_test

import (
	"slices"
	"strconv"
	"strings"
	"testing"

	"carillon/api"
)

// end is an end that is held against a plain one, and against what its peer's ends were given to send.
type end struct {
	both
	epoch  int
	given  map[int][]string // by the peer's epoch, what was sent to it (0: to whom was not known)
	told   map[int][]string // by the peer's epoch, what was told of it
	resets int
}

func newEnd(t *testing.T, epoch int) *end {
	t.Helper()
	return &end{both: both{made(t, epoch), newPlain(epoch)}, epoch: epoch, given: map[int][]string{}, told: map[int][]string{}}
}

func (e *end) send(t *testing.T, body string) {
	t.Helper()
	if e.both.send(t, body) == api.OK {
		e.given[e.l.Peer()] = append(e.given[e.l.Peer()], body)
	}
}

func (e *end) take(t *testing.T, f api.Frame) {
	t.Helper()
	was := e.l.Peer()
	bodies, reset := e.both.take(t, f)
	now := e.l.Peer()
	if was == 0 && now != 0 {
		e.given[now] = e.given[0]
	}
	if reset != (was != 0 && now != was) {
		t.Fatalf("reset %v from the peer %d to %d", reset, was, now)
	}
	e.told[now] = append(e.told[now], bodies...)
	if reset {
		e.resets++
	}
}

// pair are two ends, and the frames that are under way between them.
type pair struct {
	ends  [2]*end
	under [2][]api.Frame // by the end that put them out
	again bool           // ends may begin again
	count int            // of bodies that were sent
}

func newPair(t *testing.T, a, b int, again bool) *pair {
	t.Helper()
	return &pair{ends: [2]*end{newEnd(t, a), newEnd(t, b)}, again: again}
}

// follows is P9.5: each end tells a beginning of what was sent to it, each body once (no two of them are the same).
func (p *pair) follows(t *testing.T) {
	t.Helper()
	for k, e := range p.ends {
		o := p.ends[1-k]
		told, given := e.told[o.epoch], o.given[e.epoch]
		if len(told) > len(given) || !slices.Equal(told, given[:len(told)]) {
			t.Fatalf("told %.200q of %.200q", told, given)
		}
		if !p.again && e.resets > 0 {
			t.Fatalf("%d resets, though both begin once", e.resets)
		}
	}
}

// Kinds of steps of a script.
const (
	sending = iota
	putting
	ticking
	taking
	doubling
	dropping
	beginning
)

// kindOf tells what a byte has a script do: bodies are sent often enough that an end is full now and then.
func kindOf(b byte) int {
	switch {
	case b < 70:
		return sending
	case b < 120:
		return putting
	case b < 150:
		return ticking
	case b < 205:
		return taking
	case b < 225:
		return doubling
	case b < 252:
		return dropping
	}
	return beginning
}

// step does what two bytes say, at one of the ends.
func (p *pair) step(t *testing.T, what, with byte) {
	t.Helper()
	k, i := int(with)%2, int(with)/2
	e, o := p.ends[k], p.ends[1-k]
	kind := kindOf(what)
	switch kind {
	case sending:
		p.count++
		e.send(t, strconv.Itoa(p.count)+strings.Repeat("x", i))
	case putting:
		p.under[k] = append(p.under[k], e.out(t)...)
	case ticking:
		e.tick(t)
	case beginning:
		if p.again {
			p.ends[k] = newEnd(t, e.epoch+1+i%3)
		}
	}
	if kind == taking || kind == doubling || kind == dropping {
		if len(p.under[k]) == 0 {
			return
		}
		i %= len(p.under[k])
		if kind != dropping {
			o.take(t, p.under[k][i])
		}
		if kind != doubling {
			p.under[k] = slices.Delete(p.under[k], i, i+1)
		}
	}
	p.follows(t)
}

// settle lets all come through, and holds it that soon all is told. What is under way of old comes first, or last.
func (p *pair) settle(t *testing.T, late bool) {
	t.Helper()
	if late {
		defer func() {
			p.comes(t)
			p.follows(t)
		}()
	} else {
		p.comes(t)
	}
	old := p.under
	p.under = [2][]api.Frame{}
	for range 30 {
		for k, e := range p.ends {
			e.tick(t)
			p.under[k] = append(p.under[k], e.out(t)...)
		}
		p.comes(t)
		p.follows(t)
	}
	for k, e := range p.ends {
		o := p.ends[1-k]
		if e.l.Waiting() != 0 || !slices.Equal(o.told[e.epoch], e.given[o.epoch]) {
			t.Fatalf("%d wait; told %.200q of %.200q", e.l.Waiting(), o.told[e.epoch], e.given[o.epoch])
		}
		// An end that began again, heard its peer first, and lost the frame that it owed for that, says no more of itself till one of them has a body.
		if e.l.Peer() != o.epoch && !p.again {
			t.Fatalf("the peer %d; want %d", e.l.Peer(), o.epoch)
		}
	}
	p.under = old
}

// comes has all that is under way be taken.
func (p *pair) comes(t *testing.T) {
	t.Helper()
	for k := range p.ends {
		for _, f := range p.under[k] {
			p.ends[1-k].take(t, f)
		}
		p.under[k] = nil
	}
}

// script plays bytes to two ends, a step two of them; then all comes through.
func script(t *testing.T, a, b int, again bool, s []byte) {
	t.Helper()
	p := newPair(t, a, b, again)
	for ; len(s) >= 2; s = s[2:] {
		p.step(t, s[0], s[1])
	}
	p.settle(t, len(p.under[0])%2 == 1)
}

// strange plays bytes to one end, whose peer says anything: a step four of them.
func strange(t *testing.T, s []byte) {
	t.Helper()
	b := both{made(t, own), newPlain(own)}
	for ; len(s) >= 4; s = s[4:] {
		switch kindOf(s[0]) {
		case sending:
			b.send(t, strings.Repeat(string(s[1:2]), int(s[2])))
		case putting:
			b.out(t)
		case ticking:
			b.tick(t)
		default:
			b.take(t, strangeFrame(b.p, s))
		}
	}
}

// strangeFrame is one near to what an end has: of its peer's epoch or one beside it, of a number and an Ack that may be too great, rarely not right.
func strangeFrame(p *plain, s []byte) api.Frame {
	f := api.Frame{Epoch: max(p.peer, 1), Peer: p.epoch, Seq: max(p.taken+int(s[2])%5-2, 0), Ack: max(p.gone+int(s[3])%12-2, 0)}
	if f.Seq != 0 {
		f.Body = string(s)
	}
	switch s[1] {
	case 0, 1, 2:
		f.Epoch++
	case 3, 4, 5, 6:
		f.Epoch--
	case 7, 8, 9, 10:
		f.Peer = int(s[2])
	case 11:
		f.Ack = great
	case 12:
		f.Seq = great
	case 13:
		f.Body += "x"
	case 14:
		f.Peer = -1
	case 15:
		f.Epoch = great + 1
	}
	return f
}

// walk is a script of so many bytes, the same one for the same seed.
func walk(seed uint32, size int) []byte {
	out := make([]byte, size)
	for i := range out {
		seed = seed*1664525 + 1013904223
		out[i] = byte(seed >> 24)
	}
	return out
}
