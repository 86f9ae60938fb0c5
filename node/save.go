package node

import (
	"carillon/acceptor"
	"carillon/api"
	"carillon/codec"
)

// Kinds of saves.
const (
	saveView     = 1 // a VALUE
	saveAcceptor = 2 // an acceptor's code
	saveText     = 3 // a text of the log, its place
)

// saveShape is that of a save: its kind, a text, a place.
const saveShape = "btl"

// saveOf tells a save; there is none of a text that no code has.
func saveOf(kind int, text string, place int) (string, api.Errno) {
	return codec.Encode([]api.Item{
		{Kind: api.IByte, N: uint64(kind)},
		{Kind: api.IText, S: text},
		{Kind: api.ILong, N: uint64(place)},
	})
}

// restore has the node be as a save says; one that is none, or does not fit, is passed over.
func (x *Node) restore(s string) {
	l, fault := codec.Decode(saveShape, s)
	if fault != api.OK {
		return
	}
	kind, text, place := l[0].N, l[1].S, l[2].N
	switch {
	case kind == saveText:
		x.restoreText(text, place)
	case place != 0:
		return // the other kinds have no place
	case kind == saveView:
		x.enter(text)
	case kind == saveAcceptor:
		x.restoreAcceptor(text)
	}
}

func (x *Node) restoreText(text string, place uint64) {
	if !x.isMember() || place != uint64(x.order.Len()) {
		return
	}
	if x.First() {
		x.order.Propose(text)
	} else {
		x.order.Add(x.order.Len(), text)
	}
}

func (x *Node) restoreAcceptor(code string) {
	if a, fault := acceptor.Decode(code); fault == api.OK {
		x.acceptor = a
	}
}
