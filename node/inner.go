package node

import (
	"strings"

	"carillon/acceptor"
	"carillon/api"
	"carillon/flush"
	"carillon/order"
	"carillon/view"
)

const (
	firstNumber = 1 // of the view that is there without a VALUE that was decided
	firstLife   = 1 // of the members of that view
)

// firstValue is how the view begins that all nodes have from the beginning on.
func firstValue(nodes int) string {
	v := api.View{Number: firstNumber}
	for node := range nodes {
		v.Members = append(v.Members, api.Member{Node: node, Life: firstLife})
	}
	value, _ := flush.Encode(v, nil)
	return value
}

// enter has the VALUE's view be the node's, if it may be.
func (x *Node) enter(value string) bool {
	v, log, fault := flush.Decode(value)
	if fault != api.OK || v.Number <= x.view.Number || !view.Has(v, x.self) || !x.below(v) {
		return false
	}
	x.order, _ = order.New(x.self.Node, nodesOf(v), log)
	x.view, x.value = v, strings.Clone(value)
	x.acceptor, x.proposal = api.Acceptor{}, nil
	x.refused, x.said = api.Ballot{}, [api.MaxNodes]api.Ballot{}
	return true
}

// below tells whether the members of a right view are nodes of the cluster.
func (x *Node) below(v api.View) bool {
	return v.Members[len(v.Members)-1].Node < x.nodes // they rise
}

// doSure has the machine do what is sure and was not done so far.
func (x *Node) doSure() []api.Done {
	if x.Sure() <= x.did {
		return nil
	}
	var l []api.Done
	log := x.Log()
	for ; x.did < x.Sure(); x.did++ {
		text := log[x.did]
		l = append(l, api.Done{Place: x.did, Text: text, Reply: x.machine.Apply(text)})
	}
	return l
}

func (x *Node) isMember() bool {
	return view.Has(x.view, x.self)
}

func (x *Node) flushing() bool {
	return x.acceptor.Promised != api.Ballot{}
}

// sequencer is that of the view that there is.
func (x *Node) sequencer() api.Member {
	return x.view.Members[0]
}

// alive tells how many of the view's members are alive.
func (x *Node) alive() int {
	return view.Common(x.view, api.View{Members: x.suspect.Alive()})
}

// heardPromised tells the greatest ballot of which an alive member said that it is promised.
func (x *Node) heardPromised() api.Ballot {
	var most api.Ballot
	for _, m := range x.view.Members {
		if x.suspect.Is(m) {
			most = greatest(most, x.said[m.Node])
		}
	}
	return most
}

func greatest(ballots ...api.Ballot) api.Ballot {
	var most api.Ballot
	for _, b := range ballots {
		if acceptor.Less(most, b) {
			most = b
		}
	}
	return most
}

func sender(m api.Message) api.Member {
	return api.Member{Node: m.From, Life: m.Life}
}

func nodesOf(v api.View) []int {
	var l []int
	for _, m := range v.Members {
		l = append(l, m.Node)
	}
	return l
}

// cloned shares no memory with the texts.
func cloned(texts []string) []string {
	var l []string
	for _, s := range texts {
		l = append(l, strings.Clone(s))
	}
	return l
}
