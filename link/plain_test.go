package link_test

import (
	"fmt"
	"slices"
	"strconv"
	"strings"
	"testing"

	"carillon/api"
	"carillon/link"
)

const (
	great = 1<<53 - 1
	own   = 5 // the epoch of an end, where nothing else is said
	other = 3 // that of its peer
)

// made is an end of an epoch.
func made(t *testing.T, epoch int) *link.Link {
	t.Helper()
	l, e := link.New(epoch)
	if e != api.OK || l == nil {
		t.Fatalf("New(%d): %d", epoch, e)
	}
	return l
}

// met is an end that knows its peer, and owes nothing.
func met(t *testing.T) *link.Link {
	t.Helper()
	l := made(t, own)
	wantTake(t, l, said(0, 0, ""), nil, false)
	l.Out()
	return l
}

// said is a frame of the peer's to the end.
func said(seq, ack int, body string) api.Frame {
	return api.Frame{Epoch: other, Peer: own, Seq: seq, Ack: ack, Body: body}
}

// put is a frame of the end's to its peer.
func put(seq, ack int, body string) api.Frame {
	return api.Frame{Epoch: own, Peer: other, Seq: seq, Ack: ack, Body: body}
}

// puts are frames of the end's, of the numbered bodies from one to another, which tell of so many that were taken.
func puts(first, last, ack int) []api.Frame {
	var out []api.Frame
	for k := first; k <= last; k++ {
		out = append(out, put(k, ack, "m"+strconv.Itoa(k)))
	}
	return out
}

// sendUpTo sends the numbered bodies from one to another, for which there is room.
func sendUpTo(t *testing.T, l *link.Link, first, last int) {
	t.Helper()
	for k := first; k <= last; k++ {
		if e := l.Send("m" + strconv.Itoa(k)); e != api.OK {
			t.Fatalf("Send of %d: %d", k, e)
		}
	}
}

func ticks(l *link.Link, n int) {
	for range n {
		l.Tick()
	}
}

// shown keeps a failure's lines short.
func shown(l ...api.Frame) string {
	var out []string
	for _, f := range l {
		out = append(out, fmt.Sprintf("%d %d %d %d %q", f.Epoch, f.Peer, f.Seq, f.Ack, f.Body[:min(20, len(f.Body))]))
	}
	return "[" + strings.Join(out, ", ") + "]"
}

func wantOut(t *testing.T, l *link.Link, want ...api.Frame) {
	t.Helper()
	if got := l.Out(); !slices.Equal(got, want) {
		t.Errorf("Out: %s; want %s", shown(got...), shown(want...))
	}
}

func wantTake(t *testing.T, l *link.Link, f api.Frame, want []string, reset bool) {
	t.Helper()
	if got, r := l.Take(f); !slices.Equal(got, want) || r != reset {
		t.Errorf("Take(%s): %q, %v; want %q, %v", shown(f), got, r, want, reset)
	}
}

func wantWaiting(t *testing.T, l *link.Link, want int) {
	t.Helper()
	if got := l.Waiting(); got != want {
		t.Errorf("Waiting: %d; want %d", got, want)
	}
}

func wantPeer(t *testing.T, l *link.Link, want int) {
	t.Helper()
	if got := l.Peer(); got != want {
		t.Errorf("Peer: %d; want %d", got, want)
	}
}

// wrong are frames that are not right, one for each way of not being so.
func wrong() []api.Frame {
	right := said(1, 0, "a")
	var out []api.Frame
	for _, n := range []int{-1 << 63, -great, -1, great + 1, 1<<63 - 1} {
		for _, field := range []func(*api.Frame) *int{epochOf, peerOf, seqOf, ackOf} {
			f := right
			*field(&f) = n
			out = append(out, f)
		}
	}
	none, body, long := right, right, right
	none.Epoch = 0
	body.Seq = 0
	long.Body = strings.Repeat("x", api.MaxText+1)
	longOfNone := long
	longOfNone.Seq = 0
	return append(out, none, body, long, longOfNone, api.Frame{})
}

func epochOf(f *api.Frame) *int { return &f.Epoch }
func peerOf(f *api.Frame) *int  { return &f.Peer }
func seqOf(f *api.Frame) *int   { return &f.Seq }
func ackOf(f *api.Frame) *int   { return &f.Ack }

// right are frames that are right, at the edges of each of their fields.
func right() []api.Frame {
	full := strings.Repeat("x", api.MaxText)
	return []api.Frame{
		{Epoch: 1},
		{Epoch: great},
		{Epoch: 1, Peer: great},
		{Epoch: 1, Ack: great},
		{Epoch: 1, Seq: 1},
		{Epoch: 1, Seq: great},
		{Epoch: 1, Seq: 1, Body: full},
		{Epoch: great, Peer: great, Seq: great, Ack: great, Body: full},
		{Epoch: 0x01020304050607, Peer: 0x11121314151617, Seq: 0x0a0b0c0d0e0f, Ack: 0x1f, Body: "\x00\xff\xfe"},
		said(1, 0, "a"),
		put(7, 9, "é"),
	}
}

// tale is what an end tells in a long row of calls: whatever it keeps is seen there.
func tale(l *link.Link) string {
	var b strings.Builder
	look := func(word string) {
		fmt.Fprintln(&b, word, l.Peer(), l.Waiting(), shown(l.Out()...))
	}
	look("now")
	for range 7 {
		l.Tick()
		look("tick")
	}
	fmt.Fprintln(&b, l.Send("tale"))
	look("sent")
	for ack := range 40 {
		for _, seq := range []int{0, ack, ack + 1} {
			bodies, reset := l.Take(api.Frame{Epoch: max(l.Peer(), 1), Peer: own, Seq: seq, Ack: ack, Body: strings.Repeat("b", min(seq, 1))})
			fmt.Fprintln(&b, bodies, reset)
		}
		look("ack")
	}
	return b.String()
}

// states are ends of the epoch own, in many ways of standing.
func states(t *testing.T) map[string]func() *link.Link {
	return map[string]func() *link.Link{
		"new":              func() *link.Link { return made(t, own) },
		"new, owes none":   func() *link.Link { l := made(t, own); l.Out(); return l },
		"new, bodies wait": func() *link.Link { l := made(t, own); sendUpTo(t, l, 1, 9); l.Out(); return l },
		"met":              func() *link.Link { return met(t) },
		"met, owes":        func() *link.Link { l := met(t); l.Take(said(1, 0, "a")); return l },
		"bodies are due":   func() *link.Link { l := met(t); sendUpTo(t, l, 1, 3); return l },
		"under way":        func() *link.Link { l := met(t); sendUpTo(t, l, 1, 3); l.Out(); return l },
		"a tick":           func() *link.Link { l := met(t); sendUpTo(t, l, 1, 3); l.Out(); ticks(l, 1); return l },
		"two ticks, owes": func() *link.Link {
			l := met(t)
			sendUpTo(t, l, 1, 10)
			l.Out()
			ticks(l, 2)
			l.Take(said(1, 2, "a"))
			return l
		},
		"resending": func() *link.Link { l := met(t); sendUpTo(t, l, 1, 10); l.Out(); ticks(l, 4); return l },
		"full": func() *link.Link {
			l := met(t)
			sendUpTo(t, l, 1, 4)
			l.Out()
			l.Take(said(1, 3, "a"))
			sendUpTo(t, l, 5, 35)
			return l
		},
	}
}

// unchanged holds it that a call changes nothing that an end could tell, however the end stands.
func unchanged(t *testing.T, name string, call func(*link.Link)) {
	t.Helper()
	for state, end := range states(t) {
		l := end()
		call(l)
		if got, want := tale(l), tale(end()); got != want {
			t.Errorf("%s at %q: %s\nwant %s", name, state, got, want)
		}
	}
}

// plain is an end as the chapter tells it: it writes down what happened, and looks up all else.
type plain struct {
	epoch, peer, taken int
	owes               bool
	sent               []string // since the last RESET
	gone               int      // how many of them were acknowledged
	happened           []event  // since the last RESET
}

type event struct {
	kind   byte // p: a body was put out; t: a Tick; r: a RESENDING; a: an acknowledgement took some away
	number int
}

func newPlain(epoch int) *plain { return &plain{epoch: epoch, owes: true} }

// latest tells behind how many of the events the last one of a kind is; 0: there was none.
func (p *plain) latest(kind byte) int {
	for i := len(p.happened) - 1; i >= 0; i-- {
		if p.happened[i].kind == kind {
			return i + 1
		}
	}
	return 0
}

// wasPut tells behind how many events a body was put out first, from some event on; 0: it was not.
func (p *plain) wasPut(number, from int) int {
	for i, e := range p.happened[from:] {
		if e == (event{'p', number}) {
			return from + i + 1
		}
	}
	return 0
}

func (p *plain) note(kind byte, number int) { p.happened = append(p.happened, event{kind, number}) }

func (p *plain) waiting() int { return len(p.sent) - p.gone }

func (p *plain) send(body string) api.Errno {
	if len(body) > 100000 {
		return api.ErrLong
	}
	if p.waiting() >= 32 {
		return api.ErrFull
	}
	p.sent = append(p.sent, body)
	return api.OK
}

func (p *plain) out() []api.Frame {
	var out []api.Frame
	for number := p.gone + 1; p.peer > 0 && number <= p.gone+8 && number <= len(p.sent); number++ {
		if p.wasPut(number, p.latest('r')) == 0 {
			out = append(out, api.Frame{Epoch: p.epoch, Peer: p.peer, Seq: number, Ack: p.taken, Body: p.sent[number-1]})
		}
	}
	for _, f := range out {
		p.note('p', f.Seq)
	}
	if out == nil && p.owes {
		out = []api.Frame{{Epoch: p.epoch, Peer: p.peer, Ack: p.taken}}
	}
	p.owes = false
	return out
}

func (p *plain) tick() {
	p.owes = p.owes || p.peer == 0
	p.note('t', 0)
	first := 0 // where the first one of those that were put out, and wait, was
	for number := len(p.sent); number > p.gone; number-- {
		if at := p.wasPut(number, 0); at > 0 {
			first = at
		}
	}
	if first == 0 {
		return
	}
	n := 0
	for _, e := range p.happened[max(first, p.latest('r'), p.latest('a')):] {
		if e.kind == 't' {
			n++
		}
	}
	if n%3 == 0 {
		p.note('r', 0)
	}
}

func (p *plain) isRight(f api.Frame) bool {
	for _, n := range []int{f.Epoch, f.Peer, f.Seq, f.Ack} {
		if n < 0 || n > 9007199254740991 {
			return false
		}
	}
	if f.Seq == 0 {
		return f.Epoch > 0 && f.Body == ""
	}
	return f.Epoch > 0 && len(f.Body) < 100001
}

func (p *plain) take(f api.Frame) (bodies []string, reset bool) {
	if !p.isRight(f) || f.Epoch < p.peer {
		return nil, false
	}
	if f.Epoch != p.peer {
		reset = p.peer != 0
		p.peer, p.taken = f.Epoch, 0
	}
	if reset {
		p.sent, p.gone, p.happened = nil, 0, nil
	}
	if f.Peer != p.epoch {
		p.owes = true
		return nil, reset
	}
	if f.Ack > p.gone && p.wasPut(f.Ack, 0) > 0 {
		p.gone = f.Ack
		p.note('a', 0)
	}
	if f.Seq != 0 {
		p.owes = true
		if f.Seq-p.taken == 1 {
			p.taken++
			bodies = append(bodies, f.Body)
		}
	}
	return bodies, reset
}

// both are an end, and a plain one that is played the same.
type both struct {
	l *link.Link
	p *plain
}

func (b both) alike(t *testing.T) {
	t.Helper()
	if b.l.Peer() != b.p.peer || b.l.Waiting() != b.p.waiting() {
		t.Fatalf("Peer %d, Waiting %d; want %d, %d", b.l.Peer(), b.l.Waiting(), b.p.peer, b.p.waiting())
	}
}

func (b both) send(t *testing.T, body string) api.Errno {
	t.Helper()
	got, want := b.l.Send(body), b.p.send(body)
	if got != want {
		t.Fatalf("Send of %d bytes: %d; want %d", len(body), got, want)
	}
	b.alike(t)
	return got
}

func (b both) out(t *testing.T) []api.Frame {
	t.Helper()
	got, want := b.l.Out(), b.p.out()
	if !slices.Equal(got, want) {
		t.Fatalf("Out: %s; want %s", shown(got...), shown(want...))
	}
	b.alike(t)
	return got
}

func (b both) tick(t *testing.T) {
	t.Helper()
	b.l.Tick()
	b.p.tick()
	b.alike(t)
}

func (b both) take(t *testing.T, f api.Frame) ([]string, bool) {
	t.Helper()
	got, reset := b.l.Take(f)
	want, wanted := b.p.take(f)
	if !slices.Equal(got, want) || reset != wanted {
		t.Fatalf("Take(%s): %q, %v; want %q, %v", shown(f), got, reset, want, wanted)
	}
	b.alike(t)
	return got, reset
}
