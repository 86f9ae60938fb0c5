package node

import (
	"carillon/acceptor"
	"carillon/api"
	"carillon/codec"
	"carillon/view"
)

const (
	firstKind = api.MHello
	lastKind  = api.MForward
)

// maxTexts is how many Texts a right message has at most.
const maxTexts = 980

// great is the greatest View, N and Sure.
const great = 1<<53 - 1

// Kind, From; Life, View, N, Sure; Ballot; Taken; Value; then the Texts.
const (
	messageShape = "bblllllblbt*t"
	headItems    = 11
)

// Right tells whether a message is right.
func Right(m api.Message) bool {
	return firstKind <= m.Kind && m.Kind <= lastKind && view.RightMember(sender(m)) &&
		allNumbers(m.View, m.N, m.Sure) && allBallots(m.Ballot, m.Taken) &&
		len(m.Texts) <= maxTexts && allTexts(m.Value) && allTexts(m.Texts...)
}

// Encode tells a message as bytes.
func Encode(m api.Message) (string, api.Errno) {
	if !Right(m) {
		return "", api.ErrArg
	}
	l := []api.Item{
		byteOf(m.Kind), byteOf(m.From),
		long(m.Life), long(m.View), long(m.N), long(m.Sure),
		long(m.Ballot.Round), byteOf(m.Ballot.Node),
		long(m.Taken.Round), byteOf(m.Taken.Node),
		text(m.Value),
	}
	for _, s := range m.Texts {
		l = append(l, text(s))
	}
	return codec.Encode(l)
}

// Decode tells the message that s is.
func Decode(s string) (api.Message, api.Errno) {
	l, fault := codec.Decode(messageShape, s)
	if fault != api.OK {
		return api.Message{}, fault
	}
	m := messageOf(l)
	if !Right(m) {
		return api.Message{}, api.ErrForm
	}
	return m, api.OK
}

// messageOf tells the message of the items of a code, right or not.
func messageOf(l []api.Item) api.Message {
	m := api.Message{
		Kind: number(l[0]), From: number(l[1]),
		Life: number(l[2]), View: number(l[3]), N: number(l[4]), Sure: number(l[5]),
		Ballot: api.Ballot{Round: number(l[6]), Node: number(l[7])},
		Taken:  api.Ballot{Round: number(l[8]), Node: number(l[9])},
		Value:  l[10].S,
	}
	for _, x := range l[headItems:] {
		m.Texts = append(m.Texts, x.S)
	}
	return m
}

func allNumbers(numbers ...int) bool {
	for _, n := range numbers {
		if n < 0 || n > great {
			return false
		}
	}
	return true
}

// allBallots tells whether each of the ballots is right, or none.
func allBallots(ballots ...api.Ballot) bool {
	for _, b := range ballots {
		if !acceptor.Right(b) && b != (api.Ballot{}) {
			return false
		}
	}
	return true
}

func allTexts(texts ...string) bool {
	for _, s := range texts {
		if len(s) > api.MaxText {
			return false
		}
	}
	return true
}

func byteOf(n int) api.Item { return api.Item{Kind: api.IByte, N: uint64(n)} }

func long(n int) api.Item { return api.Item{Kind: api.ILong, N: uint64(n)} }

func text(s string) api.Item { return api.Item{Kind: api.IText, S: s} }

// number tells that of an item; a long that is past all numbers is below 0 then, and so not right either.
func number(x api.Item) int { return int(x.N) }
