package link

import (
	"strings"

	"carillon/api"
)

// waiting is a body that waits till it is acknowledged.
type waiting struct {
	number int
	body   string
	due    bool // it was not put out so far, or not since the last RESENDING
}

// wait keeps a copy, as nothing is kept that was handed in.
func (l *Link) wait(body string) {
	l.last++
	l.waits = append(l.waits, waiting{l.last, strings.Clone(body), true})
}

// putOut tells the bodies that are due, none to a peer that is not known, and has them be due no more.
func (l *Link) putOut() []waiting {
	if !l.knows() {
		return nil
	}
	var due []waiting
	for i := range min(len(l.waits), api.MaxWindow) {
		w := &l.waits[i]
		if !w.due {
			continue
		}
		due = append(due, *w)
		w.due = false
		l.put = w.number // never less than it was, as a RESENDING has all that were put out be due
	}
	return due
}

// frames makes a frame of each; number 0 is one without a body.
func (l *Link) frames(due ...waiting) []api.Frame {
	out := make([]api.Frame, 0, len(due))
	for _, w := range due {
		out = append(out, api.Frame{Epoch: l.epoch, Peer: l.peer, Seq: w.number, Ack: l.taken, Body: strings.Clone(w.body)})
	}
	return out
}

// underWay asks whether a body that was put out waits: if any, then the first one.
func (l *Link) underWay() bool {
	return len(l.waits) > 0 && l.waits[0].number <= l.put
}

// resend is a RESENDING; those that were not put out are due anyway.
func (l *Link) resend() {
	for i := range l.waits {
		l.waits[i].due = true
	}
	l.ticks = 0
}

// acknowledge takes off in front what has a number up to ack. More than was put out no peer can have: that was said of other bodies.
func (l *Link) acknowledge(ack int) {
	if ack > l.put {
		return
	}
	for len(l.waits) > 0 && l.waits[0].number <= ack {
		l.waits[0] = waiting{} // as the array lives on, for those behind it
		l.waits = l.waits[1:]
		l.ticks = 0
	}
}

// forget is a RESET of what is sent.
func (l *Link) forget() {
	l.waits = nil
	l.last, l.put, l.ticks = 0, 0, 0
}
