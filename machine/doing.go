package machine

import (
	"carillon/api"
	"carillon/subs"
	"carillon/topic"
)

const lastKind = api.CLeave

// doing is what a Kind does with a right command, as a method expression of the machine.
type doing func(m *Machine, c api.Command) api.Reply

// doings tells what each Kind does, by Kinds; no right command is of the Kind 0, whose row is empty.
func doings() [lastKind + 1]doing {
	return [lastKind + 1]doing{
		api.CCreate:    (*Machine).create,
		api.CPublish:   (*Machine).publish,
		api.CSubscribe: (*Machine).subscribe,
		api.CAttach:    (*Machine).attach,
		api.CPoll:      (*Machine).poll,
		api.CAck:       (*Machine).ack,
		api.CSeek:      (*Machine).seek,
		api.CTrim:      (*Machine).trim,
		api.CCompact:   (*Machine).compact,
		api.CJoin:      (*Machine).join,
		api.CLeave:     (*Machine).leave,
	}
}

func (m *Machine) create(c api.Command) api.Reply {
	if _, ok := m.topics[c.Topic]; ok {
		return coded(api.RExists)
	}
	if len(m.topics) >= api.MaxTopics {
		return coded(api.RFull)
	}
	m.topics[c.Topic], _ = topic.New(c.Topic) // the Topic of a right command is a word
	return coded(api.ROK)
}

func (m *Machine) publish(c api.Command) api.Reply {
	t, ok := m.topics[c.Topic]
	if !ok {
		return coded(api.RNone)
	}
	offset, code := t.Publish(c.Name, c.Seq, c.Key, c.Value)
	return numbered(code, offset)
}

func (m *Machine) subscribe(c api.Command) api.Reply {
	t, ok := m.topics[c.Topic]
	if !ok {
		return coded(api.RNone)
	}
	if _, ok := m.subs[c.Name]; ok {
		return coded(api.RExists)
	}
	if len(m.subs) >= api.MaxSubs {
		return coded(api.RFull)
	}
	return m.keep(subs.New(c.Name, t, c.N))
}

func (m *Machine) attach(c api.Command) api.Reply {
	s, ok := m.subs[c.Name]
	if !ok {
		return coded(api.RNone)
	}
	return m.keep(subs.Attach(s), api.ROK)
}

func (m *Machine) poll(c api.Command) api.Reply {
	s, ok := m.subs[c.Name]
	if !ok {
		return coded(api.RNone)
	}
	now, records, code := subs.Poll(s, m.topics[s.Topic], c.N)
	if code != api.ROK {
		return coded(code)
	}
	m.subs[c.Name] = now
	return api.Reply{Code: api.ROK, N: now.Next, Records: records}
}

func (m *Machine) ack(c api.Command) api.Reply {
	s, ok := m.subs[c.Name]
	if !ok {
		return coded(api.RNone)
	}
	return m.keep(subs.Ack(s, c.N))
}

func (m *Machine) seek(c api.Command) api.Reply {
	s, ok := m.subs[c.Name]
	if !ok {
		return coded(api.RNone)
	}
	return m.keep(subs.Seek(s, m.topics[s.Topic], c.N))
}

func (m *Machine) trim(c api.Command) api.Reply {
	t, ok := m.topics[c.Topic]
	if !ok {
		return coded(api.RNone)
	}
	code := t.Trim(c.N)
	return numbered(code, t.Low())
}

func (m *Machine) compact(c api.Command) api.Reply {
	t, ok := m.topics[c.Topic]
	if !ok {
		return coded(api.RNone)
	}
	code := t.Compact(c.N)
	return numbered(code, t.Low())
}

func (m *Machine) join(c api.Command) api.Reply {
	m.wanted[c.N] = true
	return numbered(api.ROK, len(m.Wanted()))
}

func (m *Machine) leave(c api.Command) api.Reply {
	// Views are made of wanted nodes: without any there would be no next one.
	if m.wanted[c.N] && len(m.Wanted()) == 1 {
		return coded(api.RArg)
	}
	m.wanted[c.N] = false
	return numbered(api.ROK, len(m.Wanted()))
}

// keep has a subscription stand for its name, if the code beside it is ROK, and tells the reply.
func (m *Machine) keep(s subs.Sub, code int) api.Reply {
	if code == api.ROK {
		m.subs[s.Name] = s
	}
	return numbered(code, s.Cursor)
}

// coded is a reply of a code alone.
func coded(code int) api.Reply {
	return api.Reply{Code: code}
}

// numbered is a reply with a number, which is told beside ROK alone.
func numbered(code, n int) api.Reply {
	if code != api.ROK {
		return coded(code)
	}
	return api.Reply{Code: code, N: n}
}
