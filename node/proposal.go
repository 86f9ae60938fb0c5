package node

import (
	"slices"

	"carillon/acceptor"
	"carillon/api"
	"carillon/flush"
	"carillon/proposer"
	"carillon/view"
)

// proposal is one of how the next view begins.
type proposal struct {
	*proposer.Proposer
	ballot api.Ballot
	goal   api.View
	logs   [][]string // of those whose promises count
	age    int        // in ticks
}

// message is what is asked of the view's members now.
func (p *proposal) message() api.Message {
	m := api.Message{Kind: api.MPrepare, View: p.goal.Number, Ballot: p.ballot}
	if p.State() != proposer.Asking {
		m.Kind, m.Value = api.MTake, p.Value()
	}
	return m
}

// change goes on with the node's proposal, and begins one where the view is to be changed.
func (s *step) change() {
	goal, needed := s.goal()
	s.goOn()
	if s.proposal == nil && needed && s.isTurn() {
		s.beginProposal(goal)
	}
}

// goal tells the view that is to be the next one; false: none is needed, or there may be none.
func (s *step) goal() (api.View, bool) {
	goal, fault := view.Next(s.view, s.suspect.Alive(), s.machine.Wanted())
	if fault != api.OK {
		return api.View{}, false
	}
	stays := !s.flushing() && s.suspect.Is(s.sequencer()) && s.heardPromised() == api.Ballot{} && slices.Equal(goal.Members, s.view.Members)
	return goal, !stays
}

// isTurn tells whether no member of a lesser Node is alive.
func (s *step) isTurn() bool {
	for _, m := range s.view.Members {
		if m.Node < s.self.Node && s.suspect.Is(m) {
			return false
		}
	}
	return true
}

// goOn has the proposal be a tick older.
func (s *step) goOn() {
	p := s.proposal
	if p == nil {
		return
	}
	p.age++
	if p.age >= api.Patience {
		s.proposal = nil
		return
	}
	for _, to := range p.Missing() {
		s.send(to, p.message())
	}
}

// beginProposal proposes the goal, by a ballot that is above all that are known.
func (s *step) beginProposal(goal api.View) {
	most := greatest(s.acceptor.Promised, s.refused, s.heardPromised())
	b := api.Ballot{Round: most.Round + 1, Node: s.self.Node}
	p, fault := proposer.New(b, nodesOf(s.view))
	if fault != api.OK {
		return // there is no greater Round
	}
	s.proposal = &proposal{Proposer: p, ballot: b, goal: goal}
	s.sendOthers(s.proposal.message())
	a, _ := acceptor.Prepare(s.acceptor, b)
	s.keep(a)
	s.countPromise(s.self.Node, a, s.Log())
}

// countPromise has a node's promise count, with its log, and tells the value, if there are enough of them.
func (s *step) countPromise(node int, a api.Acceptor, log []string) {
	p := s.proposal
	if !p.Promise(node, a) {
		return
	}
	p.logs = append(p.logs, cloned(log))
	own, fault := flush.Own(p.goal, p.logs)
	if fault != api.OK {
		return
	}
	if _, fault := p.Tell(own); fault != api.OK {
		return
	}
	s.sendOthers(p.message())
	s.takeOwn(p.Value())
}

// takeOwn has the node's own acceptor take the value, if it did not promise a greater ballot since.
func (s *step) takeOwn(value string) {
	a, ok := acceptor.Take(s.acceptor, s.proposal.ballot, value)
	if ok && s.keep(a) {
		s.countTaken(s.self.Node)
	}
}

// countTaken counts a node that has taken the value, and ends the view, if there are enough of them.
func (s *step) countTaken(node int) {
	s.proposal.Taken(node)
	if s.proposal.State() == proposer.Decided {
		s.decide()
	}
}

// decide tells all whom it concerns how the next view begins.
func (s *step) decide() {
	value := s.proposal.Value()
	next, _, _ := flush.Decode(value) // of what was taken of old it may be another one than the goal
	concerned := append(nodesOf(s.view), nodesOf(next)...)
	for to := range api.MaxNodes {
		if to != s.self.Node && slices.Contains(concerned, to) {
			s.send(to, api.Message{Kind: api.MInstall, Value: value})
		}
	}
	if !s.begin(value) {
		s.proposal = nil
	}
}
