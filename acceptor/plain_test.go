package acceptor_test

import (
	"encoding/hex"
	"fmt"
	"math"
	"strings"

	"carillon/api"
)

const great = 1<<53 - 1

// full is a value of MaxText bytes, other one of as many, long one of a byte more.
var (
	full  = strings.Repeat("v", api.MaxText)
	other = full[1:] + "w"
	long  = full + "v"
)

func bal(round, node int) api.Ballot { return api.Ballot{Round: round, Node: node} }

func acc(promised, taken api.Ballot, value string) api.Acceptor {
	return api.Acceptor{Promised: promised, Taken: taken, Value: value}
}

// shown keeps a failure's lines short.
func shown(a api.Acceptor) string {
	return fmt.Sprintf("%d.%d, %d.%d, %s", a.Promised.Round, a.Promised.Node, a.Taken.Round, a.Taken.Node, brief(a.Value))
}

func brief(s string) string {
	if len(s) > 40 {
		return fmt.Sprintf("%q.. of %d bytes", s[:20], len(s))
	}
	return fmt.Sprintf("%q", s)
}

// rising are right ballots, from the least one to the greatest one.
func rising() []api.Ballot {
	return []api.Ballot{
		bal(1, 0), bal(1, 1), bal(1, 5), bal(1, api.MaxNodes-1),
		bal(2, 0), bal(2, 1), bal(2, api.MaxNodes-1),
		bal(3, 0), bal(300, 3),
		bal(1<<32, 0), bal(1<<32+1, 0), bal(1<<52, 4),
		bal(great-1, api.MaxNodes-1), bal(great, 0), bal(great, 1), bal(great, api.MaxNodes-1),
	}
}

// wrongBallots are neither right nor none.
func wrongBallots() []api.Ballot {
	return []api.Ballot{
		bal(0, 1), bal(0, api.MaxNodes-1), bal(0, api.MaxNodes), bal(0, -1), bal(0, math.MaxInt), bal(0, math.MinInt),
		bal(-1, 0), bal(-1, 1), bal(-1, -1), bal(-2, 6), bal(-great, 0), bal(math.MinInt, 0), bal(math.MinInt, math.MinInt),
		bal(great+1, 0), bal(great+1, 6), bal(great+2, 1), bal(1<<62, 0), bal(math.MaxInt, 0), bal(math.MaxInt, math.MaxInt),
		bal(1, -1), bal(2, -2), bal(great, -1), bal(1, math.MinInt),
		bal(1, api.MaxNodes), bal(2, api.MaxNodes+1), bal(great, api.MaxNodes), bal(1, 255), bal(1, 256), bal(1, 263), bal(1, math.MaxInt),
	}
}

// plainKey is the place of a right ballot among all of them; 0 of none.
func plainKey(b api.Ballot) int {
	return b.Round*api.MaxNodes + b.Node
}

func plainBallotRight(b api.Ballot) bool {
	return b.Round > 0 && b.Round < 9007199254740992 && b.Node >= 0 && b.Node < 7
}

// plainAcceptorRight asks of an acceptor what the chapter does, part by part.
func plainAcceptorRight(a api.Acceptor) bool {
	for _, b := range []api.Ballot{a.Promised, a.Taken} {
		if !plainBallotRight(b) && b != (api.Ballot{}) {
			return false
		}
	}
	if plainKey(a.Taken) > plainKey(a.Promised) || len(a.Value) > 100000 {
		return false
	}
	return a.Taken.Round > 0 || len(a.Value) == 0
}

func plainListens(a api.Acceptor, b api.Ballot) bool {
	return plainAcceptorRight(a) && plainBallotRight(b) && plainKey(b) >= plainKey(a.Promised)
}

func plainPrepare(a api.Acceptor, b api.Ballot) (api.Acceptor, bool) {
	if !plainListens(a, b) {
		return a, false
	}
	return acc(b, a.Taken, a.Value), true
}

func plainTake(a api.Acceptor, b api.Ballot, value string) (api.Acceptor, bool) {
	if !plainListens(a, b) || len(value) > 100000 || a.Taken == b && a.Value != value {
		return a, false
	}
	return acc(b, b, value), true
}

// plainCode are the bytes of an acceptor, whether or not it is right, whose Nodes are below 256.
func plainCode(a api.Acceptor) string {
	s := fmt.Sprintf("%016x%02x%016x%02x%08x", uint64(a.Promised.Round), a.Promised.Node, uint64(a.Taken.Round), a.Taken.Node, len(a.Value))
	b, err := hex.DecodeString(s)
	if err != nil {
		panic(err)
	}
	return string(b) + a.Value
}

// right are right acceptors: none of all, Taken none, Taken below Promised and the same as it, at the edges of each part.
func right() []api.Acceptor {
	none := bal(0, 0)
	l := []api.Acceptor{{}}
	values := []string{"", "x", "y", "\x00\xff", full, other}
	for i, promised := range rising() {
		l = append(l, acc(promised, none, ""))
		for j, taken := range rising()[:i+1] {
			l = append(l, acc(promised, taken, values[(i+j)%4]))
		}
	}
	for _, value := range values {
		l = append(l, acc(bal(2, 1), bal(2, 1), value), acc(bal(great, 6), bal(2, 1), value), acc(bal(2, 1), bal(2, 0), value), acc(bal(2, 1), bal(1, 6), value))
	}
	return l
}

// wrong are acceptors that are not right: each in one of its parts, and some in several.
func wrong() []api.Acceptor {
	none := bal(0, 0)
	l := []api.Acceptor{
		acc(none, none, "x"), acc(none, none, "\x00"), acc(none, none, full), acc(none, none, long),
		acc(bal(2, 1), none, "x"), acc(bal(great, 6), none, "\x00"), acc(bal(2, 1), none, long),
		acc(bal(2, 1), bal(2, 1), long), acc(bal(2, 1), bal(1, 0), long), acc(bal(2, 1), bal(2, 1), long+long),
		acc(none, bal(1, 0), ""), acc(none, bal(1, 0), "x"), acc(none, bal(great, 6), "x"),
		acc(bal(2, 1), bal(2, 2), "x"), acc(bal(2, 1), bal(3, 0), "x"), acc(bal(2, 1), bal(3, 1), ""), acc(bal(1, 6), bal(2, 0), "x"),
		acc(bal(great, 5), bal(great, 6), "x"), acc(bal(great-1, 6), bal(great, 0), ""), acc(bal(1, 0), bal(1, 1), ""),
	}
	for _, b := range wrongBallots() {
		l = append(l, acc(b, none, ""), acc(b, bal(1, 0), "x"), acc(b, b, "x"), acc(b, b, ""), acc(bal(great, 6), b, "x"), acc(bal(great, 6), b, ""), acc(bal(1, 0), b, ""))
	}
	return l
}
