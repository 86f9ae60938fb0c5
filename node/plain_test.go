package node_test

import (
	"encoding/binary"
	"fmt"
	"slices"
	"strconv"
	"strings"
	"testing"

	"carillon/acceptor"
	"carillon/api"
	"carillon/codec"
	"carillon/command"
	"carillon/flush"
	"carillon/machine"
	"carillon/node"
)

// great is 2^53 - 1.
const great = 9007199254740991

// none is no ballot.
var none api.Ballot

func m(node, life int) api.Member { return api.Member{Node: node, Life: life} }

func bal(round, node int) api.Ballot { return api.Ballot{Round: round, Node: node} }

func of(number int, members ...api.Member) api.View {
	return api.View{Number: number, Members: members}
}

// all is the view of that Number of the first nodes, each in its Life 1.
func all(number, nodes int) api.View {
	v := of(number)
	for n := range nodes {
		v.Members = append(v.Members, m(n, 1))
	}
	return v
}

func times(s string, n int) string { return strings.Repeat(s, n) }

func byteOf(n int) string { return string([]byte{byte(n)}) }

func longOf(n int) string { return string(binary.BigEndian.AppendUint64(nil, uint64(n))) }

func textOf(s string) string {
	return string(binary.BigEndian.AppendUint32(nil, uint32(len(s)))) + s
}

func ballotOf(b api.Ballot) string { return longOf(b.Round) + byteOf(b.Node) }

// save is that of a kind, a text and a place, right or not.
func save(kind int, text string, place int) string {
	return byteOf(kind) + textOf(text) + longOf(place)
}

// value tells how a view begins, right or not.
func value(v api.View, log ...string) string {
	s := longOf(v.Number)
	for _, x := range v.Members {
		s += byteOf(x.Node) + longOf(x.Life)
	}
	s = textOf(s)
	for _, text := range log {
		s += textOf(text)
	}
	return s
}

// accepted is an acceptor's code, right or not.
func accepted(promised, taken api.Ballot, value string) string {
	return ballotOf(promised) + ballotOf(taken) + textOf(value)
}

// bytesOf is a message's code, right or not.
func bytesOf(x api.Message) string {
	s := byteOf(x.Kind) + byteOf(x.From) + longOf(x.Life) + longOf(x.View) + longOf(x.N) + longOf(x.Sure) +
		ballotOf(x.Ballot) + ballotOf(x.Taken) + textOf(x.Value)
	for _, text := range x.Texts {
		s += textOf(text)
	}
	return s
}

// code is that of a command.
func code(t testing.TB, c api.Command) string {
	t.Helper()
	s, e := command.Encode(c)
	if e != api.OK {
		t.Fatalf("%v: %d", c, e)
	}
	return s
}

// create is the code of a CCreate; asks tells it from others.
func create(t testing.TB, topic string, ask int) string {
	t.Helper()
	return code(t, api.Command{Kind: api.CCreate, Topic: topic, Ask: ask})
}

func brief(s string) string {
	if len(s) > 60 {
		return fmt.Sprintf("%q.. (%d)", s[:60], len(s))
	}
	return fmt.Sprintf("%q", s)
}

func shownTexts(l []string) string {
	s := "["
	for _, x := range l[:min(len(l), 12)] {
		s += brief(x) + " "
	}
	return fmt.Sprintf("%s] (%d)", s, len(l))
}

func shownMessage(x api.Message) string {
	return fmt.Sprintf("{kind %d from %d.%d view %d n %d sure %d ballot %v taken %v value %s texts %s}", x.Kind, x.From, x.Life, x.View, x.N, x.Sure, x.Ballot, x.Taken, brief(x.Value), shownTexts(x.Texts))
}

func shown(e api.Effects) string {
	s := "saves " + shownTexts(e.Saves)
	for _, x := range e.Sends {
		s += fmt.Sprintf("\n\tto %d: %s", x.To, shownMessage(x.M))
	}
	for _, x := range e.Done {
		s += fmt.Sprintf("\n\tdone at %d: %s: %v", x.Place, brief(x.Text), x.Reply)
	}
	return s
}

func sameMessage(a, b api.Message) bool {
	return a.Kind == b.Kind && a.From == b.From && a.Life == b.Life && a.View == b.View && a.N == b.N && a.Sure == b.Sure &&
		a.Ballot == b.Ballot && a.Taken == b.Taken && a.Value == b.Value && slices.Equal(a.Texts, b.Texts)
}

func sameEffects(a, b api.Effects) bool {
	return slices.Equal(a.Saves, b.Saves) &&
		slices.EqualFunc(a.Sends, b.Sends, func(x, y api.Send) bool { return x.To == y.To && sameMessage(x.M, y.M) }) &&
		slices.EqualFunc(a.Done, b.Done, func(x, y api.Done) bool {
			return x.Place == y.Place && x.Text == y.Text && x.Reply.Code == y.Reply.Code && x.Reply.N == y.Reply.N && slices.Equal(x.Reply.Records, y.Reply.Records)
		})
}

func sameView(a, b api.View) bool {
	return a.Number == b.Number && slices.Equal(a.Members, b.Members)
}

// plainProposal keeps all that it was answered.
type plainProposal struct {
	ballot   api.Ballot
	goal     api.View
	born     int
	promises []api.Message
	value    string
	telling  bool
	took     []int
}

// plain is a node as the chapter tells it, without the layers below but for the readers of bytes and the machine; it keeps all that it heard, and goes through it each time.
type plain struct {
	self     api.Member
	nodes    int
	view     api.View
	value    string
	base     int
	log      []string
	sure     int // as learnt, or counted
	haves    []api.Message
	acceptor api.Acceptor
	machine  *machine.Machine
	did      int
	now      int
	heard    []api.Message // each member once, in the order in which they were heard last; their N is when
	hellos   []api.Message
	refusals []api.Ballot
	own      *plainProposal
	out      api.Effects
	live     bool
}

func plainRight(x api.Message) bool {
	number := func(n int) bool { return n >= 0 && n < 1<<53 }
	ballot := func(b api.Ballot) bool {
		return b == none || b.Round > 0 && b.Round < 1<<53 && b.Node >= 0 && b.Node < 7
	}
	for _, s := range x.Texts {
		if len(s) > 100000 {
			return false
		}
	}
	return x.Kind > 0 && x.Kind < 11 && x.From >= 0 && x.From < 7 && x.Life > 0 && number(x.Life) && number(x.View) && number(x.N) && number(x.Sure) &&
		ballot(x.Ballot) && ballot(x.Taken) && len(x.Value) <= 100000 && len(x.Texts) <= 980
}

func newPlain(self api.Member, nodes int, saved []string) *plain {
	p := &plain{self: self, nodes: nodes}
	p.machine, _ = machine.New(nodes)
	if self.Life == 1 {
		p.install(value(all(1, nodes)))
	}
	for _, s := range saved {
		l, e := codec.Decode("btl", s)
		if e != api.OK {
			continue
		}
		a, wrong := acceptor.Decode(l[1].S)
		switch {
		case l[0].N == 1 && l[2].N == 0:
			p.install(l[1].S)
		case l[0].N == 2 && l[2].N == 0 && wrong == api.OK:
			p.acceptor = a
		case l[0].N == 3 && p.view.Number > 0 && l[2].N == uint64(len(p.log)):
			p.add(l[1].S)
		}
	}
	p.finish()
	p.live = true
	return p
}

// add has s be the last text, if there is room.
func (p *plain) add(s string) bool {
	size := len(s) + 4
	for _, x := range p.log {
		size += len(x) + 4
	}
	if size > 45000 {
		return false
	}
	p.log = append(p.log, s)
	if p.live {
		p.out.Saves = append(p.out.Saves, save(3, s, len(p.log)-1))
	}
	return true
}

func (p *plain) install(s string) bool {
	v, log, e := flush.Decode(s)
	if e != api.OK || v.Number <= p.view.Number || !slices.Contains(v.Members, p.self) || slices.ContainsFunc(v.Members, func(x api.Member) bool { return x.Node >= p.nodes }) {
		return false
	}
	p.view, p.value, p.log, p.base = v, s, log, len(log)
	p.sure, p.haves, p.hellos, p.refusals, p.own, p.acceptor = 0, nil, nil, nil, nil, api.Acceptor{}
	if p.live {
		p.out.Saves = append(p.out.Saves, save(1, s, 0))
	}
	return true
}

func (p *plain) first() bool { return p.view.Number > 0 && p.view.Members[0] == p.self }

// has tells how many texts a node has, as far as the sequencer knows.
func (p *plain) has(node int) int {
	if node == p.self.Node {
		return len(p.log)
	}
	n := p.base
	for _, x := range p.haves {
		if x.From == node && x.N <= len(p.log) {
			n = max(n, x.N)
		}
	}
	return n
}

func (p *plain) isSure() int {
	if !p.first() {
		return max(p.sure, p.base)
	}
	n := len(p.log)
	for ; n > p.base; n-- {
		having := 0
		for _, x := range p.view.Members {
			if p.has(x.Node) >= n {
				having++
			}
		}
		if having*2 > len(p.view.Members) {
			break
		}
	}
	return n
}

func (p *plain) finish() api.Effects {
	for ; p.did < p.isSure(); p.did++ {
		r := p.machine.Apply(p.log[p.did])
		p.out.Done = append(p.out.Done, api.Done{Place: p.did, Text: p.log[p.did], Reply: r})
	}
	e := p.out
	p.out = api.Effects{}
	return e
}

func (p *plain) send(to int, x api.Message) {
	x.From, x.Life = p.self.Node, p.self.Life
	p.out.Sends = append(p.out.Sends, api.Send{To: to, M: x})
}

func (p *plain) others(x api.Message) {
	for _, y := range p.view.Members {
		if y.Node != p.self.Node {
			p.send(y.Node, x)
		}
	}
}

func (p *plain) isAlive(x api.Member) bool {
	if x == p.self {
		return true
	}
	for _, y := range slices.Backward(p.heard) {
		if y.From == x.Node {
			return y.Life == x.Life && p.now-y.N < 5
		}
	}
	return false
}

func (p *plain) flushing() bool { return p.acceptor.Promised != none }

func (p *plain) primary() bool {
	alive := 0
	for _, x := range p.view.Members {
		if p.isAlive(x) {
			alive++
		}
	}
	return p.view.Number > 0 && !p.flushing() && p.isAlive(p.view.Members[0]) && alive*2 > len(p.view.Members)
}

// nextView tells the goal; of the Number 0: there is none.
func (p *plain) nextView() api.View {
	goal := of(p.view.Number + 1)
	stay := 0
	for n := range p.nodes {
		for _, y := range append([]api.Message{{From: p.self.Node, Life: p.self.Life}}, p.heard...) {
			x := m(y.From, y.Life)
			if x.Node == n && p.isAlive(x) && slices.Contains(p.machine.Wanted(), n) && !slices.Contains(goal.Members, x) {
				goal.Members = append(goal.Members, x)
				if slices.Contains(p.view.Members, x) {
					stay++
				}
			}
		}
	}
	if stay*2 <= len(p.view.Members) || goal.Number > great {
		return api.View{}
	}
	return goal
}

// sayings are the ballots of the MHellos of this view of members that are alive.
func (p *plain) sayings() []api.Ballot {
	var l []api.Ballot
	for _, x := range p.hellos {
		if p.isAlive(m(x.From, x.Life)) && x.Ballot != none {
			l = append(l, x.Ballot)
		}
	}
	return l
}

func (p *plain) tick() api.Effects {
	p.now++
	for n := range p.nodes {
		if n != p.self.Node {
			p.send(n, api.Message{Kind: api.MHello, View: p.view.Number, Ballot: p.acceptor.Promised})
		}
	}
	if p.first() && !p.flushing() {
		for _, x := range p.view.Members {
			if x != p.self {
				from := p.has(x.Node)
				p.send(x.Node, api.Message{Kind: api.MBeat, View: p.view.Number, N: from, Sure: p.isSure(), Texts: p.log[from:min(from+4, len(p.log))]})
			}
		}
	}
	if p.view.Number > 0 {
		p.propound()
	}
	return p.finish()
}

func (p *plain) propound() {
	goal := p.nextView()
	needed := goal.Number > 0 && (p.flushing() || !p.isAlive(p.view.Members[0]) || len(p.sayings()) > 0 || !slices.Equal(goal.Members, p.view.Members))
	for _, x := range p.view.Members {
		if x.Node < p.self.Node && p.isAlive(x) {
			needed = false
		}
	}
	if p.own != nil && p.now-p.own.born == 4 {
		p.own = nil
	}
	if p.own != nil {
		for _, x := range p.view.Members {
			promised := slices.ContainsFunc(p.own.promises, func(y api.Message) bool { return y.From == x.Node })
			switch {
			case p.own.telling && !slices.Contains(p.own.took, x.Node):
				p.send(x.Node, api.Message{Kind: api.MTake, View: goalNumber(p), Ballot: p.own.ballot, Value: p.own.value})
			case !p.own.telling && !promised:
				p.send(x.Node, api.Message{Kind: api.MPrepare, View: goalNumber(p), Ballot: p.own.ballot})
			}
		}
		return
	}
	round := p.acceptor.Promised.Round
	for _, b := range append(p.sayings(), p.refusals...) {
		round = max(round, b.Round)
	}
	if !needed || round >= great {
		return
	}
	b := bal(round+1, p.self.Node)
	p.own = &plainProposal{ballot: b, goal: goal, born: p.now}
	p.others(api.Message{Kind: api.MPrepare, View: goalNumber(p), Ballot: b})
	p.acceptor.Promised = b
	p.saveAcceptor()
	p.promise(api.Message{From: p.self.Node, Taken: p.acceptor.Taken, Value: p.acceptor.Value, Texts: slices.Clone(p.log)})
}

func goalNumber(p *plain) int { return p.view.Number + 1 }

func (p *plain) saveAcceptor() {
	p.out.Saves = append(p.out.Saves, save(2, accepted(p.acceptor.Promised, p.acceptor.Taken, p.acceptor.Value), 0))
}

// promise counts one, and tells the value, if there are enough.
func (p *plain) promise(x api.Message) {
	o := p.own
	if o.telling || slices.ContainsFunc(o.promises, func(y api.Message) bool { return y.From == x.From }) {
		return
	}
	// Taken must not be above what is promised, and there is no Value of a Taken that is none.
	if above(x.Taken, o.ballot) || x.Taken == none && x.Value != "" {
		return
	}
	o.promises = append(o.promises, x)
	longest, taken := o.promises[0], o.promises[0]
	for _, y := range o.promises {
		if len(y.Texts) > len(longest.Texts) {
			longest = y
		}
		if above(y.Taken, taken.Taken) {
			taken = y
		}
	}
	for _, y := range o.promises {
		if !slices.Equal(y.Texts, longest.Texts[:len(y.Texts)]) {
			return
		}
	}
	own := value(o.goal, longest.Texts...)
	if len(o.promises)*2 <= len(p.view.Members) || len(longest.Texts) > 990 || len(own) > 100000 {
		return
	}
	o.telling, o.value = true, own
	if taken.Taken != none {
		o.value = taken.Value
	}
	p.others(api.Message{Kind: api.MTake, View: goalNumber(p), Ballot: o.ballot, Value: o.value})
	if p.takes(o.ballot, o.value) {
		p.took(p.self.Node)
	}
}

func above(a, b api.Ballot) bool {
	return a.Round > b.Round || a.Round == b.Round && a.Node > b.Node
}

// takes has the acceptor take a value; one whose code is no text of a code could not last.
func (p *plain) takes(b api.Ballot, s string) bool {
	a := p.acceptor
	if b == none || above(a.Promised, b) || a.Taken == b && a.Value != s || len(s) > 100000-22 {
		return false
	}
	p.acceptor = api.Acceptor{Promised: b, Taken: b, Value: s}
	p.saveAcceptor()
	return true
}

func (p *plain) took(node int) {
	o := p.own
	if !o.telling || slices.Contains(o.took, node) {
		return
	}
	o.took = append(o.took, node)
	if len(o.took)*2 <= len(p.view.Members) {
		return
	}
	v, _, _ := flush.Decode(o.value)
	for n := range 7 {
		is := func(x api.Member) bool { return x.Node == n }
		if n != p.self.Node && (slices.ContainsFunc(p.view.Members, is) || slices.ContainsFunc(v.Members, is)) {
			p.send(n, api.Message{Kind: api.MInstall, Value: o.value})
		}
	}
	if !p.install(o.value) {
		p.own = nil
	}
}

func (p *plain) take(x api.Message) api.Effects {
	if !plainRight(x) || x.From >= p.nodes || x.From == p.self.Node {
		return api.Effects{}
	}
	for _, y := range p.heard {
		if y.From == x.From && y.Life > x.Life {
			return api.Effects{}
		}
	}
	p.heard = slices.DeleteFunc(p.heard, func(y api.Message) bool { return y.From == x.From && y.Life == x.Life })
	p.heard = append(p.heard, api.Message{From: x.From, Life: x.Life, N: p.now})
	sender := m(x.From, x.Life)
	member := slices.Contains(p.view.Members, sender)
	asks := x.Kind == api.MPrepare || x.Kind == api.MTake
	if member && (x.Kind == api.MHello && x.View < p.view.Number || asks && x.View < p.view.Number+1) {
		p.send(x.From, api.Message{Kind: api.MInstall, Value: p.value})
	}
	if x.Kind == api.MInstall {
		p.install(x.Value)
	}
	if member {
		p.takeOfMember(x)
	}
	return p.finish()
}

func (p *plain) takeOfMember(x api.Message) {
	this, next := x.View == p.view.Number, x.View == p.view.Number+1
	mine := p.own != nil && next && x.Ballot == p.own.ballot
	switch {
	case x.Kind == api.MHello && this:
		p.hellos = append(p.hellos, x)
	case x.Kind == api.MBeat && this && !p.flushing() && p.view.Members[0].Node == x.From:
		for i, s := range x.Texts {
			if x.N+i == len(p.log) {
				p.add(s)
			}
		}
		p.sure = max(p.sure, min(x.Sure, len(p.log)))
		p.send(x.From, api.Message{Kind: api.MHave, View: x.View, N: len(p.log)})
	case x.Kind == api.MHave && this && p.first() && x.N <= len(p.log):
		p.haves = append(p.haves, x)
	case x.Kind == api.MPrepare && next && x.Ballot != none && !above(p.acceptor.Promised, x.Ballot):
		p.acceptor.Promised = x.Ballot
		p.saveAcceptor()
		p.send(x.From, api.Message{Kind: api.MPromise, View: x.View, Ballot: x.Ballot, Taken: p.acceptor.Taken, Value: p.acceptor.Value, Texts: slices.Clone(p.log)})
	case x.Kind == api.MTake && next && p.takes(x.Ballot, x.Value):
		p.send(x.From, api.Message{Kind: api.MTaken, View: x.View, Ballot: x.Ballot})
	case (x.Kind == api.MPrepare || x.Kind == api.MTake) && next:
		p.send(x.From, api.Message{Kind: api.MRefuse, View: x.View, Ballot: p.acceptor.Promised})
	case x.Kind == api.MPromise && mine:
		p.promise(x)
	case x.Kind == api.MTaken && mine:
		p.took(x.From)
	case x.Kind == api.MRefuse && p.own != nil && next && above(x.Ballot, p.own.ballot):
		p.refusals = append(p.refusals, x.Ballot)
		p.own = nil
	case x.Kind == api.MForward && p.first() && len(x.Texts) == 1:
		p.asked(x.Texts[0])
	}
}

func (p *plain) asked(s string) int {
	if _, e := command.Decode(s); e != api.OK {
		return api.RMalformed
	}
	if !p.primary() {
		return api.RNotPrimary
	}
	switch {
	case slices.Contains(p.log, s):
	case !p.first():
		p.send(p.view.Members[0].Node, api.Message{Kind: api.MForward, Texts: []string{s}})
	case !p.add(s):
		return api.RFull
	}
	return api.ROK
}

func (p *plain) propose(s string) (int, api.Effects) {
	n := p.asked(s)
	return n, p.finish()
}

// both is a node, and the plain one, that are asked the same.
type both struct {
	x     *node.Node
	p     *plain
	saves []string // all that was asked to be saved
	rough bool     // what was handed in, and what was told, is written over behind each call
}

func bothOf(t testing.TB, self api.Member, nodes int, saved ...string) *both {
	t.Helper()
	return begun(t, false, self, nodes, saved...)
}

// begun is bothOf, with saves that are written over behind New, if it is to be rough.
func begun(t testing.TB, rough bool, self api.Member, nodes int, saved ...string) *both {
	t.Helper()
	l := lentTexts(saved)
	x, e := node.New(self, nodes, l.texts)
	if e != api.OK || x == nil {
		t.Fatalf("New(%v, %d): %v, %d", self, nodes, x, e)
	}
	if rough {
		l.spoil(t, saved)
	}
	b := &both{x: x, p: newPlain(self, nodes, saved), saves: slices.Clone(saved), rough: rough}
	b.hold(t)
	return b
}

// agree asks that both had the same effects.
func (b *both) agree(t testing.TB, what string, e, want api.Effects) api.Effects {
	t.Helper()
	if !sameEffects(e, want) {
		t.Fatalf("%s at %v:\n%s\nwant\n%s", what, b.p.self, shown(e), shown(want))
	}
	if b.rough {
		kept := copied(e)
		spoilEffects(e)
		e = kept
	}
	b.saves = append(b.saves, e.Saves...)
	b.hold(t)
	return e
}

func (b *both) tick(t testing.TB) api.Effects {
	t.Helper()
	return b.agree(t, "Tick", b.x.Tick(), b.p.tick())
}

func (b *both) take(t testing.TB, x api.Message) api.Effects {
	t.Helper()
	if b.rough {
		l := lentMessage(x)
		e := b.x.Take(l.x)
		l.spoil(t, x)
		return b.agree(t, "Take", e, b.p.take(x))
	}
	e := b.x.Take(x)
	return b.agree(t, "Take of kind "+strconv.Itoa(x.Kind), e, b.p.take(x))
}

func (b *both) propose(t testing.TB, s string) (int, api.Effects) {
	t.Helper()
	l := lentTexts([]string{s})
	n, e := b.x.Propose(l.texts[0])
	if b.rough {
		l.spoil(t, []string{s})
	}
	want, f := b.p.propose(s)
	if n != want {
		t.Fatalf("Propose %s at %v: %d; want %d", brief(s), b.p.self, n, want)
	}
	return n, b.agree(t, "Propose "+brief(s), e, f)
}

// hold asks that the node tells what the plain one has.
func (b *both) hold(t testing.TB) {
	t.Helper()
	x, p := b.x, b.p
	if v := x.View(); !sameView(v, p.view) {
		t.Fatalf("View of %v: %v; want %v", p.self, v, p.view)
	}
	if x.Primary() != p.primary() || x.First() != p.first() || x.Sure() != p.isSure() {
		t.Fatalf("%v: Primary %v, First %v, Sure %d; want %v, %v, %d", p.self, x.Primary(), x.First(), x.Sure(), p.primary(), p.first(), p.isSure())
	}
	l := x.Log()
	if !slices.Equal(l, p.log) {
		t.Fatalf("Log of %v: %s; want %s", p.self, shownTexts(l), shownTexts(p.log))
	}
	if b.rough {
		spoil(l)
		clear(x.View().Members)
	}
	if x.Machine().Count() != p.machine.Count() || x.Machine().Digest() != p.machine.Digest() {
		t.Fatalf("Machine of %v: %d, %v; want %d, %v", p.self, x.Machine().Count(), x.Machine().Digest(), p.machine.Count(), p.machine.Digest())
	}
}

// walk tells numbers below others, the same ones for a seed.
func walk(seed uint32) func(below int) int {
	state := seed*2654435761 + 12345
	return func(below int) int {
		state = state*1664525 + 1013904223
		return int(state>>8) % below
	}
}
