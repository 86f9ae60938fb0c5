package node

import (
	"slices"
	"strings"

	"carillon/acceptor"
	"carillon/api"
	"carillon/command"
	"carillon/view"
)

// beatTexts is how many texts an MBeat has at most.
const beatTexts = 4

// step is what one call does at a node; what comes of it is gathered in the Effects.
type step struct {
	*Node
	api.Effects
}

// doing is what is done with a right message of one kind, whose sender was heard, as a method expression.
type doing func(s *step, m api.Message)

// doings tells what is done with each kind; no right message is of the kind 0, whose row is empty.
func doings() [lastKind + 1]doing {
	return [lastKind + 1]doing{
		api.MHello:   (*step).hello,
		api.MBeat:    (*step).beat,
		api.MHave:    (*step).have,
		api.MPrepare: (*step).prepare,
		api.MPromise: (*step).promise,
		api.MRefuse:  (*step).refuse,
		api.MTake:    (*step).take,
		api.MTaken:   (*step).taken,
		api.MInstall: (*step).install,
		api.MForward: (*step).forward,
	}
}

// end tells what came of the step, when the machine has done what is sure.
func (s *step) end() api.Effects {
	s.Done = s.doSure()
	return s.Effects
}

// send has m go to a node, with memory of its own.
func (s *step) send(to int, m api.Message) {
	m.From, m.Life = s.self.Node, s.self.Life
	m.Value, m.Texts = strings.Clone(m.Value), cloned(m.Texts)
	s.Sends = append(s.Sends, api.Send{To: to, M: m})
}

// sendOthers has m go to each member of the view but self.
func (s *step) sendOthers(m api.Message) {
	for _, to := range s.view.Members {
		if to != s.self {
			s.send(to.Node, m)
		}
	}
}

// sendValue tells a node how the view begins.
func (s *step) sendValue(to int) {
	s.send(to, api.Message{Kind: api.MInstall, Value: s.value})
}

// save asks that a text lasts; false: it is too long for that.
func (s *step) save(kind int, text string, place int) bool {
	code, fault := saveOf(kind, text, place)
	if fault != api.OK {
		return false
	}
	s.Saves = append(s.Saves, code)
	return true
}

// keep has the node's acceptor be a, which must last first; false: it is too long for that, and the acceptor is as it was.
func (s *step) keep(a api.Acceptor) bool {
	code, fault := acceptor.Encode(a)
	if fault != api.OK || !s.save(saveAcceptor, code, 0) {
		return false
	}
	s.acceptor = a
	return true
}

// begin has the VALUE's view be the node's, and last, if it may be.
func (s *step) begin(value string) bool {
	return s.enter(value) && s.save(saveView, value, 0)
}

func (s *step) sayHello() {
	for to := range s.nodes {
		if to != s.self.Node {
			s.send(to, api.Message{Kind: api.MHello, View: s.view.Number, Ballot: s.acceptor.Promised})
		}
	}
}

// sayLog tells the other members what they do not have, as the sequencer.
func (s *step) sayLog() {
	for _, to := range s.view.Members {
		if to != s.self {
			n, texts := s.order.Wants(to.Node, beatTexts)
			s.send(to.Node, api.Message{Kind: api.MBeat, View: s.view.Number, N: n, Sure: s.order.Sure(), Texts: texts})
		}
	}
}

// ofMember tells whether the sender is of this view.
func (s *step) ofMember(m api.Message) bool {
	return view.Has(s.view, sender(m))
}

// ofNext tells whether a message is of the view behind this one.
func (s *step) ofNext(m api.Message) bool {
	return m.View == s.view.Number+1
}

func (s *step) hello(m api.Message) {
	switch {
	case !s.ofMember(m):
		return
	case m.View == s.view.Number:
		s.said[m.From] = greatest(s.said[m.From], m.Ballot) // one that comes late tells less
	case m.View < s.view.Number:
		s.sendValue(m.From)
	}
}

func (s *step) beat(m api.Message) {
	if !s.isMember() || s.flushing() || m.View != s.view.Number || sender(m) != s.sequencer() {
		return
	}
	for i, text := range m.Texts {
		if place := m.N + i; s.order.Add(place, text) {
			s.save(saveText, text, place)
		}
	}
	s.order.Learn(m.Sure)
	s.send(m.From, api.Message{Kind: api.MHave, View: s.view.Number, N: s.order.Len()})
}

func (s *step) have(m api.Message) {
	if s.First() && m.View == s.view.Number && s.ofMember(m) {
		s.order.Has(m.From, m.N)
	}
}

// asked tells whether m asks the acceptor; who asks for a view that is there is told how it begins.
func (s *step) asked(m api.Message) bool {
	if !s.ofMember(m) {
		return false
	}
	if m.View <= s.view.Number {
		s.sendValue(m.From)
	}
	return s.ofNext(m)
}

func (s *step) prepare(m api.Message) {
	if !s.asked(m) {
		return
	}
	a, ok := acceptor.Prepare(s.acceptor, m.Ballot)
	if !ok || !s.keep(a) {
		s.sendRefuse(m)
		return
	}
	s.send(m.From, api.Message{Kind: api.MPromise, View: m.View, Ballot: m.Ballot, Taken: a.Taken, Value: a.Value, Texts: s.Log()})
}

func (s *step) take(m api.Message) {
	if !s.asked(m) {
		return
	}
	a, ok := acceptor.Take(s.acceptor, m.Ballot, m.Value)
	if !ok || !s.keep(a) {
		s.sendRefuse(m)
		return
	}
	s.send(m.From, api.Message{Kind: api.MTaken, View: m.View, Ballot: m.Ballot})
}

func (s *step) sendRefuse(m api.Message) {
	s.send(m.From, api.Message{Kind: api.MRefuse, View: m.View, Ballot: s.acceptor.Promised})
}

// answers tells whether m may be about the node's proposal.
func (s *step) answers(m api.Message) bool {
	return s.proposal != nil && s.ofNext(m) && s.ofMember(m)
}

func (s *step) promise(m api.Message) {
	if s.answers(m) && m.Ballot == s.proposal.ballot {
		s.countPromise(m.From, api.Acceptor{Promised: m.Ballot, Taken: m.Taken, Value: m.Value}, m.Texts)
	}
}

func (s *step) taken(m api.Message) {
	if s.answers(m) && m.Ballot == s.proposal.ballot {
		s.countTaken(m.From)
	}
}

func (s *step) refuse(m api.Message) {
	if s.answers(m) && acceptor.Less(s.proposal.ballot, m.Ballot) {
		s.refused = greatest(s.refused, m.Ballot)
		s.proposal = nil
	}
}

func (s *step) install(m api.Message) {
	s.begin(m.Value)
}

func (s *step) forward(m api.Message) {
	if len(m.Texts) == 1 && s.First() && s.ofMember(m) {
		s.propose(m.Texts[0])
	}
}

// propose has a command be in the log, or go to the sequencer, and tells a code.
func (s *step) propose(text string) int {
	if _, fault := command.Decode(text); fault != api.OK {
		return api.RMalformed
	}
	if !s.Primary() {
		return api.RNotPrimary
	}
	if slices.Contains(s.Log(), text) {
		return api.ROK // it was asked before
	}
	if !s.First() {
		s.send(s.sequencer().Node, api.Message{Kind: api.MForward, Texts: []string{text}})
		return api.ROK
	}
	place, fault := s.order.Propose(text)
	if fault != api.OK {
		return api.RFull
	}
	s.save(saveText, text, place)
	return api.ROK
}
