package command

import (
	"slices"

	"carillon/api"
)

const (
	commandShape = "bttlttlbl"          // Kind, Topic, Name, Seq, Key, Value, N and 1, Node, Ask
	replyShape   = "lbl*" + recordShape // the number of the asking, Code, N and 1, then the records
	recordShape  = "ltltt"              // Offset, Producer, Seq, Key, Value
)

// commandItems tells the items of a right command's code.
func commandItems(c api.Command) []api.Item {
	return []api.Item{
		{Kind: api.IByte, N: uint64(c.Kind)},
		{Kind: api.IText, S: c.Topic},
		{Kind: api.IText, S: c.Name},
		{Kind: api.ILong, N: uint64(c.Seq)},
		{Kind: api.IText, S: c.Key},
		{Kind: api.IText, S: c.Value},
		{Kind: api.ILong, N: moved(c.N)},
		{Kind: api.IByte, N: uint64(c.Node)},
		{Kind: api.ILong, N: uint64(c.Ask)},
	}
}

// commandOf tells the command of the items of a code, right or not.
func commandOf(l []api.Item) api.Command {
	return api.Command{
		Kind:  int(l[0].N),
		Topic: l[1].S,
		Name:  l[2].S,
		// A long that is past all numbers of its kind is below 0 then, and so not right either.
		Seq:   int(l[3].N),
		Key:   l[4].S,
		Value: l[5].S,
		N:     movedBack(l[6].N),
		Node:  int(l[7].N),
		Ask:   int(l[8].N),
	}
}

// replyItems tells the items of the code of a right reply.
func replyItems(ask int, r api.Reply) []api.Item {
	l := []api.Item{
		{Kind: api.ILong, N: uint64(ask)},
		{Kind: api.IByte, N: uint64(r.Code)},
		{Kind: api.ILong, N: moved(r.N)},
	}
	for _, x := range r.Records {
		l = append(l, recordItems(x)...)
	}
	return l
}

// replyOf tells the number and the reply of the items of a code, right or not.
func replyOf(l []api.Item) (int, api.Reply) {
	r := api.Reply{Code: int(l[1].N), N: movedBack(l[2].N)}
	for items := range slices.Chunk(l[3:], len(recordShape)) {
		r.Records = append(r.Records, recordOf(items))
	}
	return int(l[0].N), r
}

func recordItems(x api.Record) []api.Item {
	return []api.Item{
		{Kind: api.ILong, N: uint64(x.Offset)},
		{Kind: api.IText, S: x.Producer},
		{Kind: api.ILong, N: uint64(x.Seq)},
		{Kind: api.IText, S: x.Key},
		{Kind: api.IText, S: x.Value},
	}
}

func recordOf(l []api.Item) api.Record {
	return api.Record{
		Offset:   int(l[0].N),
		Producer: l[1].S,
		Seq:      int(l[2].N),
		Key:      l[3].S,
		Value:    l[4].S,
	}
}

// moved tells a number that may be -1 as one that a long may be.
func moved(n int) uint64 {
	return uint64(n) + 1
}

// movedBack goes back by one ahead of leaving the longs, so that no two longs are one number: one that is past all of its kind stays so, or is below -1.
func movedBack(n uint64) int {
	return int(n - 1)
}
