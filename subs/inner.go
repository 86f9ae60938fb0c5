package subs

import (
	"slices"
	"strings"

	"carillon/api"
	"carillon/command"
	"carillon/topic"
)

// great is the greatest offset, 2^53 - 1.
const great = 1<<53 - 1

// inner is a subscription with its methods: a value, so that each of them tells a new one and leaves the old one as it was.
type inner Sub

// step is what may be done with a right subscription, as a method expression of inner: it tells a new one, the records that are told, and whether it may be done.
type step func(s inner, t *topic.Topic, n int) (inner, []api.Record, bool)

func (s inner) right() bool {
	return command.Word(s.Name) && command.Word(s.Topic) && 0 <= s.Cursor && s.Cursor <= s.Next && s.Next <= great
}

// own shares no memory with the subscription that is handed in.
func (s inner) own() inner {
	s.Name, s.Topic = strings.Clone(s.Name), strings.Clone(s.Topic)
	return s
}

// from polls from an offset on.
func (s inner) from(next int) inner {
	s.Next = next
	return s
}

func (s inner) poll(t *topic.Topic, many int) (inner, []api.Record, bool) {
	if s.Topic != t.Name() || s.Next > t.End() || many < 1 || many > api.MaxPoll {
		return s, nil, false
	}
	told := s.granted(t, many)
	if len(told) == 0 {
		return s, nil, true
	}
	return s.from(told[len(told)-1].Offset + 1), told, true
}

// granted are the next records of a topic, as far as MaxCredit lets them be told without an ack. What was trimmed needs no ack: the credit counts from the low mark on, if that is above the Cursor.
func (s inner) granted(t *topic.Topic, many int) []api.Record {
	end := max(s.Cursor, t.Low()) + api.MaxCredit
	return slices.DeleteFunc(t.Read(s.Next, many), func(r api.Record) bool { return r.Offset >= end })
}

// ack asks no topic: what was told was the topic's.
func (s inner) ack(_ *topic.Topic, offset int) (inner, []api.Record, bool) {
	if offset < 0 || offset >= s.Next {
		return s, nil, false
	}
	s.Cursor = max(s.Cursor, offset+1)
	return s, nil, true
}

func (s inner) seek(t *topic.Topic, offset int) (inner, []api.Record, bool) {
	if s.Topic != t.Name() || offset < 0 || offset > t.End() {
		return s, nil, false
	}
	s.Cursor = offset
	return s.from(offset), nil, true
}
