package acceptor

import (
	"carillon/api"
	"carillon/codec"
)

// shape is that of an acceptor's code: the Round and the Node of Promised, those of Taken, Value.
const shape = "lblbt"

// Encode tells an acceptor as bytes.
func Encode(a api.Acceptor) (string, api.Errno) {
	if !isRight(a) {
		return "", api.ErrArg
	}
	return codec.Encode(itemsOf(a)) // what is right is within the limits of a code
}

// Decode tells the acceptor that s is.
func Decode(s string) (api.Acceptor, api.Errno) {
	l, fault := codec.Decode(shape, s)
	if fault != api.OK {
		return api.Acceptor{}, fault
	}
	a := acceptorOf(l)
	if !isRight(a) {
		return api.Acceptor{}, api.ErrForm
	}
	return a, api.OK
}

// itemsOf tells the items of a right acceptor's code.
func itemsOf(a api.Acceptor) []api.Item {
	return []api.Item{
		{Kind: api.ILong, N: uint64(a.Promised.Round)},
		{Kind: api.IByte, N: uint64(a.Promised.Node)},
		{Kind: api.ILong, N: uint64(a.Taken.Round)},
		{Kind: api.IByte, N: uint64(a.Taken.Node)},
		{Kind: api.IText, S: a.Value},
	}
}

// acceptorOf tells the acceptor of the items of a code, right or not.
func acceptorOf(l []api.Item) api.Acceptor {
	return api.Acceptor{
		Promised: ballotOf(l[0], l[1]),
		Taken:    ballotOf(l[2], l[3]),
		Value:    l[4].S,
	}
}

func ballotOf(round, node api.Item) api.Ballot {
	// A long that is past all numbers of its kind is below 0 then, and so not right either.
	return api.Ballot{Round: int(round.N), Node: int(node.N)}
}
