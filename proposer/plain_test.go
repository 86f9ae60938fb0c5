package proposer_test

import (
	"fmt"
	"math"
	"slices"
	"strings"
	"testing"

	"carillon/api"
	"carillon/proposer"
)

const great = 1<<53 - 1

// full is a value of MaxText bytes, long one of a byte more.
var (
	full = strings.Repeat("v", api.MaxText)
	long = full + "v"
)

func bal(round, node int) api.Ballot { return api.Ballot{Round: round, Node: node} }

func acc(promised, taken api.Ballot, value string) api.Acceptor {
	return api.Acceptor{Promised: promised, Taken: taken, Value: value}
}

// free is an acceptor that has promised b, and taken nothing.
func free(b api.Ballot) api.Acceptor { return acc(b, bal(0, 0), "") }

// shown keeps a failure's lines short.
func shown(a api.Acceptor) string {
	return fmt.Sprintf("%d.%d, %d.%d, %s", a.Promised.Round, a.Promised.Node, a.Taken.Round, a.Taken.Node, brief(a.Value))
}

func brief(s string) string {
	if len(s) > 40 {
		return fmt.Sprintf("%q.. of %d bytes", s[:20], len(s))
	}
	return fmt.Sprintf("%q", s)
}

// wrongBallots are neither right nor none.
func wrongBallots() []api.Ballot {
	return []api.Ballot{
		bal(0, 1), bal(0, api.MaxNodes-1), bal(0, -1),
		bal(-1, 0), bal(-1, 1), bal(-1, -1), bal(-great, 0), bal(math.MinInt, 0), bal(math.MinInt, math.MinInt),
		bal(great+1, 0), bal(great+1, 6), bal(1<<62, 0), bal(math.MaxInt, 0), bal(math.MaxInt, math.MaxInt),
		bal(1, -1), bal(great, -1), bal(1, math.MinInt),
		bal(1, api.MaxNodes), bal(2, api.MaxNodes+1), bal(great, api.MaxNodes), bal(1, 256), bal(1, math.MaxInt),
	}
}

// noNodes are numbers that no node has.
func noNodes() []int {
	return []int{-1, -2, -api.MaxNodes, math.MinInt, api.MaxNodes, api.MaxNodes + 1, 255, 256, 1 << 32, math.MaxInt}
}

// wrongAcceptors have promised b, and are not right: each in one of its parts, and some in several.
func wrongAcceptors(b api.Ballot) []api.Acceptor {
	l := []api.Acceptor{
		acc(b, bal(0, 0), "x"), acc(b, bal(0, 0), "\x00"), acc(b, bal(0, 0), full), acc(b, bal(0, 0), long),
		acc(b, b, long), acc(b, bal(1, 0), long), acc(b, b, long+long),
		acc(b, bal(b.Round, b.Node+1), "x"), acc(b, bal(b.Round+1, 0), "x"), acc(b, bal(b.Round+1, b.Node), ""), acc(b, bal(great, 6), "x"),
	}
	for _, taken := range wrongBallots() {
		l = append(l, acc(b, taken, ""), acc(b, taken, "x"))
	}
	return l
}

// plain is a proposer that keeps all that came, and looks each answer up in it.
type plain struct {
	ballot api.Ballot
	nodes  []int
	heard  []promise
	told   []string // the value, once it is settled
	taken  []int
}

type promise struct {
	node int
	a    api.Acceptor
}

func (x *plain) most(n int) bool { return n >= len(x.nodes)/2+1 }

func (x *plain) promised() []int {
	var l []int
	for _, h := range x.heard {
		l = append(l, h.node)
	}
	return l
}

// rightOf asks of an acceptor that has promised a right ballot what chapter 10 does.
func rightOf(a api.Acceptor) bool {
	if a.Taken == bal(0, 0) {
		return a.Value == ""
	}
	if a.Taken.Round < 1 || a.Taken.Node < 0 || a.Taken.Node > 6 || len(a.Value) > 100000 {
		return false
	}
	return a.Taken.Round < a.Promised.Round || a.Taken.Round == a.Promised.Round && a.Taken.Node <= a.Promised.Node
}

func (x *plain) promise(node int, a api.Acceptor) bool {
	if x.state() != proposer.Asking || !slices.Contains(x.nodes, node) || slices.Contains(x.promised(), node) || a.Promised != x.ballot || !rightOf(a) {
		return false
	}
	x.heard = append(x.heard, promise{node, a})
	return true
}

// choice is the value of the greatest Taken; false, if nobody had taken anything.
func (x *plain) choice() (string, bool) {
	l := slices.DeleteFunc(slices.Clone(x.heard), func(h promise) bool { return h.a.Taken == bal(0, 0) })
	slices.SortStableFunc(l, func(h, g promise) int {
		return (g.a.Taken.Round*10 + g.a.Taken.Node) - (h.a.Taken.Round*10 + h.a.Taken.Node)
	})
	if len(l) == 0 {
		return "", false
	}
	return l[0].a.Value, true
}

func (x *plain) tell(own string) (string, api.Errno) {
	if len(x.told) > 0 {
		return x.told[0], api.OK
	}
	value, ok := x.choice()
	switch {
	case !x.most(len(x.heard)):
		return "", api.ErrFew
	case !ok && len(own) > 100000:
		return "", api.ErrLong
	case !ok:
		value = own
	}
	x.told = []string{value}
	return value, api.OK
}

func (x *plain) take(node int) bool {
	if len(x.told) == 0 || !slices.Contains(x.nodes, node) || slices.Contains(x.taken, node) {
		return false
	}
	x.taken = append(x.taken, node)
	return true
}

func (x *plain) state() int {
	switch {
	case len(x.told) == 0:
		return 0
	case !x.most(len(x.taken)):
		return 1
	}
	return 2
}

func (x *plain) value() string { return strings.Join(x.told, "") }

func (x *plain) missing() []int {
	done := x.taken
	if len(x.told) == 0 {
		done = x.promised()
	}
	l := slices.DeleteFunc(slices.Clone(x.nodes), func(node int) bool { return slices.Contains(done, node) })
	slices.Sort(l)
	return l
}

// begun is a proposer that New tells.
func begun(t *testing.T, b api.Ballot, nodes ...int) *proposer.Proposer {
	t.Helper()
	p, e := proposer.New(b, nodes)
	if p == nil || e != api.OK {
		t.Fatalf("New(%v, %v): %v, %d", b, nodes, p, e)
	}
	return p
}

func wantPromise(t *testing.T, p *proposer.Proposer, node int, a api.Acceptor, yes bool) {
	t.Helper()
	if p.Promise(node, a) != yes {
		t.Errorf("Promise(%d; %s): %v", node, shown(a), !yes)
	}
}

func wantTell(t *testing.T, p *proposer.Proposer, own, want string, fault api.Errno) {
	t.Helper()
	if s, e := p.Tell(own); s != want || e != fault {
		t.Errorf("Tell(%s): %s, %d; want %s, %d", brief(own), brief(s), e, brief(want), fault)
	}
}

func wantTaken(t *testing.T, p *proposer.Proposer, node int, yes bool) {
	t.Helper()
	if p.Taken(node) != yes {
		t.Errorf("Taken(%d): %v", node, !yes)
	}
}

// wantStands asks all that a proposer tells of itself.
func wantStands(t *testing.T, p *proposer.Proposer, state int, value string, missing ...int) {
	t.Helper()
	if p.State() != state || p.Value() != value || !slices.Equal(p.Missing(), missing) {
		t.Errorf("%d, %s, %v; want %d, %s, %v", p.State(), brief(p.Value()), p.Missing(), state, brief(value), missing)
	}
}

// told is a proposer that is Telling own, which all nodes have promised.
func told(t *testing.T, b api.Ballot, own string, nodes ...int) *proposer.Proposer {
	t.Helper()
	p := begun(t, b, nodes...)
	for _, node := range nodes {
		wantPromise(t, p, node, free(b), true)
	}
	wantTell(t, p, own, own, api.OK)
	return p
}

// decided is one that all nodes have taken own of.
func decided(t *testing.T, b api.Ballot, own string, nodes ...int) *proposer.Proposer {
	t.Helper()
	p := told(t, b, own, nodes...)
	for _, node := range nodes {
		wantTaken(t, p, node, true)
	}
	return p
}

// call is one of a proposer's, and is done at a plain one too.
type call struct {
	kind int // 0 Promise, 1 Tell, else Taken
	node int
	a    api.Acceptor
	own  string
}

func (c call) do(t *testing.T, p *proposer.Proposer, x *plain) {
	t.Helper()
	switch c.kind {
	case 0:
		wantPromise(t, p, c.node, c.a, x.promise(c.node, c.a))
	case 1:
		want, fault := x.tell(c.own)
		wantTell(t, p, c.own, want, fault)
	default:
		wantTaken(t, p, c.node, x.take(c.node))
	}
	wantStands(t, p, x.state(), x.value(), x.missing()...)
}

// walk tells numbers below a bound, without a random source.
func walk(seed uint32) func(below int) int {
	return func(below int) int {
		seed = seed*1664525 + 1013904223
		return int(seed>>8) % below
	}
}
