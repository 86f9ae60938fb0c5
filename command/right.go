package command

import (
	"carillon/api"
	"carillon/segment"
)

const (
	great    = 1<<53 - 1 // the greatest number of a command, and of a reply
	maxCode  = 255       // the greatest code of a reply: it is a byte
	lastKind = api.CLeave
)

// needs asks of each field by which Kinds differ whether it may be so.
type needs struct {
	topic, name func(string) bool
	seq         func(int) bool
	key, value  func(string) bool
	n           func(int) bool
}

// allNeeds tells what each Kind must have, by Kinds; no Kind is 0, whose row is empty.
func allNeeds() [lastKind + 1]needs {
	return [lastKind + 1]needs{
		api.CCreate:    {Word, noText, noNumber, noText, noText, noNumber},
		api.CPublish:   {Word, Word, isNumber, isKey, isValue, noNumber},
		api.CSubscribe: {Word, Word, noNumber, noText, noText, isNumberOrMinusOne},
		api.CAttach:    {noText, Word, noNumber, noText, noText, noNumber},
		api.CPoll:      {noText, Word, noNumber, noText, noText, isMany},
		api.CAck:       {noText, Word, noNumber, noText, noText, isNumber},
		api.CSeek:      {noText, Word, noNumber, noText, noText, isNumber},
		api.CTrim:      {Word, noText, noNumber, noText, noText, isNumber},
		api.CCompact:   {Word, noText, noNumber, noText, noText, isNumber},
		api.CJoin:      {noText, noText, noNumber, noText, noText, isNode},
		api.CLeave:     {noText, noText, noNumber, noText, noText, isNode},
	}
}

// fitsKind asks whether the fields of a command are those of its Kind.
func fitsKind(c api.Command) bool {
	if c.Kind < api.CCreate || c.Kind > lastKind {
		return false
	}
	must := allNeeds()[c.Kind]
	return must.topic(c.Topic) && must.name(c.Name) && must.seq(c.Seq) &&
		must.key(c.Key) && must.value(c.Value) && must.n(c.N)
}

// isReply asks whether a reply may be told.
func isReply(r api.Reply) bool {
	if r.Code < 0 || r.Code > maxCode || !isNumberOrMinusOne(r.N) || len(r.Records) > api.MaxPoll {
		return false
	}
	for _, x := range r.Records {
		if !segment.Right(x) {
			return false
		}
	}
	return true
}

func isLetter(b byte) bool {
	return 'a' <= b && b <= 'z' || '0' <= b && b <= '9'
}

func noText(s string) bool { return s == "" }

func isKey(s string) bool { return len(s) <= api.MaxKey }

func isValue(s string) bool { return len(s) <= api.MaxValue }

func noNumber(n int) bool { return n == 0 }

func isNumber(n int) bool { return 0 <= n && n <= great }

func isNumberOrMinusOne(n int) bool { return n == -1 || isNumber(n) }

func isMany(n int) bool { return 1 <= n && n <= api.MaxPoll }

func isNode(n int) bool { return 0 <= n && n < api.MaxNodes }
