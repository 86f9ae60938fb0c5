package net_test

import (
	"slices"
	"strconv"
	"testing"

	"carillon/api"
	"carillon/net"
)

// made is a net of n nodes.
func made(t *testing.T, n int) *net.Net {
	t.Helper()
	x, e := net.New(n)
	if e != api.OK || x == nil {
		t.Fatalf("New(%d): %d", n, e)
	}
	return x
}

// send sends all over a link, which has room for them.
func send(t *testing.T, x *net.Net, from, to int, all ...string) {
	t.Helper()
	for _, s := range all {
		if !x.Send(from, to, s) {
			t.Fatalf("Send(%d, %d, %q): false", from, to, s)
		}
	}
}

// on tells the messages of a link, over which nothing is cut, and leaves them as they are: each is taken, and sent again.
func on(t *testing.T, x *net.Net, from, to int) []string {
	t.Helper()
	var out []string
	for range x.Len(from, to) {
		s, ok := x.Take(from, to, 0)
		if !ok {
			t.Fatalf("Take(%d, %d, 0): %q, false", from, to, s)
		}
		send(t, x, from, to, s)
		out = append(out, s)
	}
	return out
}

// wantOn holds the messages of a link, over which nothing is cut, against what there must be.
func wantOn(t *testing.T, x *net.Net, from, to int, want ...string) {
	t.Helper()
	if n := x.Len(from, to); n != len(want) {
		t.Errorf("Len(%d, %d): %d; want %d", from, to, n, len(want))
	}
	if got := on(t, x, from, to); !slices.Equal(got, want) {
		t.Errorf("on %d, %d: %q; want %q", from, to, got, want)
	}
}

// numbered tells so many messages, no two of them the same.
func numbered(n int) []string {
	out := make([]string, n)
	for i := range out {
		out[i] = "m" + strconv.Itoa(i)
	}
	return out
}

// links tells the ends of all links of n nodes.
func links(n int) [][2]int {
	var out [][2]int
	for from := range n {
		for to := range n {
			if from != to {
				out = append(out, [2]int{from, to})
			}
		}
	}
	return out
}

// filled is a net of n nodes, each link of which has two messages of its own.
func filled(t *testing.T, n int) *net.Net {
	t.Helper()
	x := made(t, n)
	for _, l := range links(n) {
		send(t, x, l[0], l[1], own(l, "a"), own(l, "b"))
	}
	return x
}

// own is a message of a link's own.
func own(l [2]int, s string) string {
	return strconv.Itoa(l[0]) + strconv.Itoa(l[1]) + s
}

// refuses holds it that a call says no, and has changed nothing of a net over which nothing is cut.
func refuses(t *testing.T, x *net.Net, call func() bool) {
	t.Helper()
	before := map[[2]int][]string{}
	for _, l := range links(x.Nodes()) {
		before[l] = on(t, x, l[0], l[1])
	}
	if call() {
		t.Error("true")
	}
	for l, want := range before {
		wantOn(t, x, l[0], l[1], want...)
	}
}

// plain is a net as the chapter tells it: all messages in one list, as they were sent, and of each node whether it is of the side.
type plain struct {
	of   []bool
	sent []letter
}

type letter struct {
	from, to int
	s        string
}

func newPlain(n int) *plain { return &plain{of: make([]bool, n)} }

func (p *plain) isNode(k int) bool { return slices.Contains([]int{0, 1, 2, 3, 4, 5, 6}[:len(p.of)], k) }

func (p *plain) isLink(from, to int) bool { return p.isNode(from) && p.isNode(to) && from != to }

// places tells where the messages of a link stand in the list.
func (p *plain) places(from, to int) []int {
	var out []int
	for i, l := range p.sent {
		if l.from == from && l.to == to {
			out = append(out, i)
		}
	}
	return out
}

// place tells where the i-th message of a link stands in the list.
func (p *plain) place(from, to, i int) (int, bool) {
	places := p.places(from, to)
	if i < 0 || i >= len(places) {
		return 0, false
	}
	return places[i], true
}

func (p *plain) send(from, to int, s string) bool {
	if !p.isLink(from, to) || len(p.places(from, to)) == 64 {
		return false
	}
	p.sent = append(p.sent, letter{from, to, s})
	return true
}

func (p *plain) drop(from, to, i int) (string, bool) {
	k, ok := p.place(from, to, i)
	if !ok {
		return "", false
	}
	s := p.sent[k].s
	p.sent = append(slices.Clone(p.sent[:k]), p.sent[k+1:]...)
	return s, true
}

func (p *plain) take(from, to, i int) (string, bool) {
	if !p.joined(from, to) {
		return "", false
	}
	return p.drop(from, to, i)
}

func (p *plain) double(from, to, i int) bool {
	k, ok := p.place(from, to, i)
	return ok && p.send(from, to, p.sent[k].s)
}

func (p *plain) cut(side int) {
	for k := range p.of {
		p.of[k] = side > 0 && side%2 == 1
		side /= 2
	}
}

func (p *plain) joined(a, b int) bool { return p.isNode(a) && p.isNode(b) && p.of[a] == p.of[b] }

func (p *plain) clear(node int) {
	var left []letter
	for _, l := range p.sent {
		if l.from != node && l.to != node {
			left = append(left, l)
		}
	}
	p.sent = left
}

// both are a net, and a plain one that is played the same.
type both struct {
	x *net.Net
	p *plain
}

// step does one step of a script on both, and looks whether they answer the same.
func (b both) step(t *testing.T, kind, from, to, i int, s string) {
	t.Helper()
	var got, want bool
	var told, wanted string
	switch kind {
	case sending:
		got, want = b.x.Send(from, to, s), b.p.send(from, to, s)
	case taking:
		told, got = b.x.Take(from, to, i)
		wanted, want = b.p.take(from, to, i)
	case dropping:
		got = b.x.Drop(from, to, i)
		_, want = b.p.drop(from, to, i)
	case doubling:
		got, want = b.x.Double(from, to, i), b.p.double(from, to, i)
	case cutting:
		b.x.Cut(i)
		b.p.cut(i)
	case clearing:
		b.x.Clear(from)
		b.p.clear(from)
	}
	if got != want || told != wanted {
		t.Fatalf("step %d of %d, %d, %d: %q, %v; want %q, %v", kind, from, to, i, told, got, wanted, want)
	}
	b.alike(t, from, to)
}

// alike holds against each other what the two tell of a link, and of who is joined.
func (b both) alike(t *testing.T, from, to int) {
	t.Helper()
	if got, want := b.x.Len(from, to), len(b.p.places(from, to)); got != want {
		t.Fatalf("Len(%d, %d): %d; want %d", from, to, got, want)
	}
	if got, want := b.x.Joined(from, to), b.p.joined(from, to); got != want {
		t.Fatalf("Joined(%d, %d): %v; want %v", from, to, got, want)
	}
	if got := b.x.Nodes(); got != len(b.p.of) {
		t.Fatalf("Nodes: %d; want %d", got, len(b.p.of))
	}
}

// Kinds of steps of a script.
const (
	sending = iota
	taking
	dropping
	doubling
	cutting
	clearing
)

// kindOf tells what a byte has a script do: Clear rarely, as links are to be full now and then.
func kindOf(b byte) int {
	switch {
	case b < 128:
		return sending
	case b < 160:
		return taking
	case b < 168:
		return dropping
	case b < 232:
		return doubling
	case b < 255:
		return cutting
	}
	return clearing
}

// nodeOf tells which node a byte has a script take, now and then one that is none.
func nodeOf(b byte, n int) int {
	switch {
	case b < 240:
		return int(b) % n
	case b < 248:
		return -1
	}
	return n
}

// script plays bytes to both: each step is a byte for what is done, and three for with what; at its end all is taken.
func script(t *testing.T, n int, s []byte) {
	t.Helper()
	b := both{made(t, n), newPlain(n)}
	for k := 0; len(s) >= 4; k, s = k+1, s[4:] {
		kind, from, to := kindOf(s[0]), nodeOf(s[1], n), nodeOf(s[2], n)
		i := int(s[3])%(len(b.p.places(from, to))+2) - 1 // from the one ahead of the first message to the one behind the last
		if kind == cutting {
			i = int(s[3]) - 20
		}
		b.step(t, kind, from, to, i, strconv.Itoa(k))
	}
	b.step(t, cutting, 0, 0, 0, "")
	for _, l := range links(n) {
		for b.x.Len(l[0], l[1]) > 0 {
			b.step(t, taking, l[0], l[1], 0, "")
		}
		b.alike(t, l[0], l[1])
	}
}

// walk is a script of so many steps, the same one for the same seed.
func walk(seed uint32, steps int) []byte {
	out := make([]byte, 4*steps)
	for i := range out {
		seed = seed*1664525 + 1013904223
		out[i] = byte(seed >> 24)
	}
	return out
}
