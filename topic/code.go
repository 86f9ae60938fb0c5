package topic

import (
	"maps"
	"slices"
	"strings"

	"carillon/api"
	"carillon/codec"
	"carillon/command"
	"carillon/segment"
)

const (
	great = 1<<53 - 1

	headShape     = "tlll"  // the name, the low mark, End, how many producers
	producerShape = "tll"   // its name, its last Seq, its Offset
	recordShape   = "ltltt" // Offset, Producer, Seq, Key, Value

	wordSize = 4 // bytes of a word, as which the length of a text is told
	longSize = 8 // bytes of a long

	maxProducers = (api.MaxItems - len(headShape)) / len(producerShape)
)

// producer is what is told of one.
type producer struct {
	name string
	last
}

// Dump tells the topic's bytes; nothing, if it has too many items for a code.
func (t *Topic) Dump() string {
	l := t.headItems()
	for _, name := range slices.Sorted(maps.Keys(t.producers)) {
		l = append(l, producerItems(producer{name, t.producers[name]})...)
	}
	for _, r := range t.records {
		l = append(l, recordItems(r)...)
	}
	s, _ := codec.Encode(l)
	return s
}

// Load tells the topic of which s is the Dump.
func Load(s string) (*Topic, api.Errno) {
	head, producers, records, ok := itemsOf(s)
	if !ok {
		return nil, api.ErrForm
	}
	t, e := New(head[0].S)
	if e != api.OK || !t.mark(int(head[1].N), int(head[2].N)) || !t.know(producersOf(producers)) || !t.have(recordsOf(records)) {
		return nil, api.ErrForm
	}
	return t, api.OK
}

// itemsOf tells the items of a Dump: those of the head, of the producers and of the records.
func itemsOf(s string) (head, producers, records []api.Item, ok bool) {
	head, e := codec.Decode(headShape, headOf(s))
	if e != api.OK || head[3].N > uint64(maxProducers) {
		return nil, nil, nil, false
	}
	many := int(head[3].N)
	l, e := codec.Decode(headShape+strings.Repeat(producerShape, many)+"*"+recordShape, s)
	if e != api.OK {
		return nil, nil, nil, false
	}
	behind := len(headShape) + many*len(producerShape)
	return head, l[len(headShape):behind], l[behind:], true
}

// headOf cuts the head's bytes out of a Dump's, as what stands behind them has no shape ahead of knowing how many producers there are.
func headOf(s string) string {
	length, e := codec.Decode("w", s[:min(wordSize, len(s))])
	if e != api.OK {
		return ""
	}
	size := wordSize + int(length[0].N) + 3*longSize
	return s[:min(size, len(s))]
}

// mark lays the marks of a topic, if they may be.
func (t *Topic) mark(low, end int) bool {
	t.low, t.end = low, end
	return 0 <= low && low <= end && end <= great
}

// know has these be the topic's producers, if they may be.
func (t *Topic) know(l []producer) bool {
	for i, p := range l {
		if !command.Word(p.name) || p.seq < 0 || p.seq > great || p.offset < 0 || p.offset >= t.end {
			return false
		}
		if i > 0 && p.name <= l[i-1].name {
			return false
		}
		t.producers[p.name] = p.last
	}
	return true
}

// have has these be the topic's records, if they may be.
func (t *Topic) have(l []api.Record) bool {
	from := t.low
	for _, r := range l {
		if !segment.Right(r) || r.Offset < from || r.Offset >= t.end {
			return false
		}
		from = r.Offset + 1
	}
	t.records = l
	return true
}

func (t *Topic) headItems() []api.Item {
	return []api.Item{
		{Kind: api.IText, S: t.name},
		{Kind: api.ILong, N: uint64(t.low)},
		{Kind: api.ILong, N: uint64(t.end)},
		{Kind: api.ILong, N: uint64(len(t.producers))},
	}
}

func producerItems(p producer) []api.Item {
	return []api.Item{
		{Kind: api.IText, S: p.name},
		{Kind: api.ILong, N: uint64(p.seq)},
		{Kind: api.ILong, N: uint64(p.offset)},
	}
}

// producersOf tells the producers of the items of a code, right or not: a long that is past all numbers is below 0 then.
func producersOf(l []api.Item) []producer {
	var out []producer
	for items := range slices.Chunk(l, len(producerShape)) {
		out = append(out, producer{items[0].S, last{seq: int(items[1].N), offset: int(items[2].N)}})
	}
	return out
}

func recordItems(r api.Record) []api.Item {
	return []api.Item{
		{Kind: api.ILong, N: uint64(r.Offset)},
		{Kind: api.IText, S: r.Producer},
		{Kind: api.ILong, N: uint64(r.Seq)},
		{Kind: api.IText, S: r.Key},
		{Kind: api.IText, S: r.Value},
	}
}

// recordsOf tells the records of the items of a code, right or not.
func recordsOf(l []api.Item) []api.Record {
	var out []api.Record
	for items := range slices.Chunk(l, len(recordShape)) {
		out = append(out, api.Record{
			Offset:   int(items[0].N),
			Producer: items[1].S,
			Seq:      int(items[2].N),
			Key:      items[3].S,
			Value:    items[4].S,
		})
	}
	return out
}
