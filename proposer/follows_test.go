package proposer_test

import (
	"fmt"
	"math/bits"
	"slices"
	"sync"
	"testing"
	"unsafe"

	"carillon/acceptor"
	"carillon/api"
	"carillon/proposer"
)

// Kinds of letters between proposers and nodes.
const (
	prepare = iota
	promises
	take
	taken
)

// letter goes from a proposer to a node, or back.
type letter struct {
	kind, who, node int
	a               api.Acceptor // of one that promises
	value           string       // of one to take
}

// town is one lot of acceptors, and proposers of different ballots with their owns.
type town struct {
	nodes     []int
	ballots   []api.Ballot
	owns      []string
	proposers []*proposer.Proposer
	acceptors [api.MaxNodes]api.Acceptor
	way       []letter
}

// newTown has owns from the one of the number first on: one of six is nothing.
func newTown(t *testing.T, nodes []int, ballots []api.Ballot, first int) *town {
	t.Helper()
	x := &town{nodes: nodes, ballots: ballots}
	for i, b := range ballots {
		x.owns = append(x.owns, []string{"a", "b", "c", "d", "e", ""}[(first+i)%6])
		x.proposers = append(x.proposers, begun(t, b, nodes...))
	}
	return x
}

// write has a proposer tell what it has to, if it may, and ask those that are missing.
func (x *town) write(who int) {
	p := x.proposers[who]
	value, e := p.Tell(x.owns[who])
	for _, node := range p.Missing() {
		if e == api.OK {
			x.way = append(x.way, letter{kind: take, who: who, node: node, value: value})
		} else {
			x.way = append(x.way, letter{kind: prepare, who: who, node: node})
		}
	}
}

// bring does what a letter says, and writes back.
func (x *town) bring(l letter) {
	var ok bool
	at := &x.acceptors[l.node]
	switch l.kind {
	case prepare:
		if *at, ok = acceptor.Prepare(*at, x.ballots[l.who]); ok {
			x.way = append(x.way, letter{kind: promises, who: l.who, node: l.node, a: *at})
		}
	case take:
		if *at, ok = acceptor.Take(*at, x.ballots[l.who], l.value); ok {
			x.way = append(x.way, letter{kind: taken, who: l.who, node: l.node})
		}
	case promises:
		x.proposers[l.who].Promise(l.node, l.a)
	case taken:
		x.proposers[l.who].Taken(l.node)
	}
}

// decided are the values that are Decided, one a proposer.
func (x *town) decided() []string {
	var l []string
	for _, p := range x.proposers {
		if p.State() == proposer.Decided {
			l = append(l, p.Value())
		}
	}
	return l
}

// hold asks that all values that are Decided are one, and some proposer's own.
func (x *town) hold(t *testing.T) bool {
	t.Helper()
	l := x.decided()
	for _, value := range l {
		if value != l[0] || !slices.Contains(x.owns, value) {
			t.Errorf("nodes %v, ballots %v: decided %q", x.nodes, x.ballots, l)
			return false
		}
	}
	return true
}

// P11.4: two proposers, each with each majority of three nodes to promise and to take, their steps in each order. (When a proposer hears of what was done is nothing to the others.)
func TestEachOrderOfTwoProposers(t *testing.T) {
	pairs := [][2]int{{0, 1}, {2, 0}, {1, 2}}
	both := 0
	for order := range 1 << 10 {
		if bits.OnesCount(uint(order)) != 5 {
			continue
		}
		for choice := range 81 {
			x := newTown(t, []int{0, 1, 2}, []api.Ballot{bal(1, 1), bal(2, 0)}, order)
			asked := [2][2]int{pairs[choice%3], pairs[choice/3%3]}
			told := [2][2]int{pairs[choice/9%3], pairs[choice/27]}
			var steps [2]int
			for place := range 10 {
				who := order >> place & 1
				x.step(who, steps[who], asked[who], told[who])
				steps[who]++
				if !x.hold(t) {
					t.Fatalf("order %b, choice %d", order, choice)
				}
			}
			if len(x.decided()) == 2 {
				both++
			}
		}
	}
	if both < 500 {
		t.Errorf("only %d times both were Decided", both)
	}
}

// step is one of five: two nodes promise, the value is told, two nodes take it.
func (x *town) step(who, at int, asked, told [2]int) {
	p := x.proposers[who]
	l := letter{who: who}
	switch at {
	case 0, 1:
		l.kind, l.node = prepare, asked[at]
	case 2:
		p.Tell(x.owns[who])
		return
	default:
		if p.State() == proposer.Asking {
			return
		}
		l.kind, l.node, l.value = take, told[at-3], p.Value()
	}
	x.bringBoth(l)
}

// bringBoth brings a letter, and what is written back.
func (x *town) bringBoth(l letter) {
	x.way = nil
	x.bring(l)
	for _, back := range x.way {
		x.bring(back)
	}
}

// P11.4: proposers that ask and tell few nodes at a time, so that nodes have often taken different values, and the greatest ballot's is the one that counts.
func TestManyHaveTakenDifferentValues(t *testing.T) {
	several, others := 0, 0
	for seed := range uint32(20000) {
		next := walk(seed)
		nodes := some(next)[:1]
		for len(nodes) < 3+int(seed%3) {
			nodes = append(nodes, (nodes[len(nodes)-1]+1)%api.MaxNodes)
		}
		ballots := []api.Ballot{bal(1, 0), bal(1, 1), bal(1, 2), bal(2, 0)}
		x := newTown(t, nodes, ballots, next(6))
		for range 24 {
			x.brisk(next)
			if !x.hold(t) {
				t.Fatalf("seed %d", seed)
			}
		}
		if len(x.decided()) > 1 {
			several++
		}
		others += x.others()
	}
	if several < 2000 || others < 2000 {
		t.Errorf("only %d times several were Decided, %d times another one's own", several, others)
	}
}

// brisk has a proposer go on: it asks all that are missing and one or two are lost, or has one node take.
func (x *town) brisk(next func(int) int) {
	who := next(len(x.proposers))
	x.way = nil
	x.write(who)
	l := x.way
	for range 1 + next(2) {
		if len(l) > 1 {
			i := next(len(l))
			l = slices.Delete(l, i, i+1)
		}
	}
	for len(l) > 0 {
		i := next(len(l))
		x.bringBoth(l[i])
		if l[i].kind == take {
			return
		}
		l = slices.Delete(l, i, i+1)
	}
}

// others counts the proposers whose value is Decided and another one's own.
func (x *town) others() int {
	n := 0
	for i, p := range x.proposers {
		if p.State() == proposer.Decided && p.Value() != x.owns[i] {
			n++
		}
	}
	return n
}

// roam does what may come next: a proposer writes; a letter comes, comes and stays on the way, or is lost.
func (x *town) roam(next func(int) int) {
	if len(x.way) == 0 || next(8) == 0 {
		x.write(next(len(x.proposers)))
		return
	}
	i := next(len(x.way))
	l := x.way[i]
	lot := next(10)
	if lot > 0 {
		x.way = slices.Delete(x.way, i, i+1)
	}
	if lot < 8 {
		x.bring(l)
	}
}

// P11.4: many proposers of ballots that rise and fall, letters lost, late, twice and in any order.
func TestOneValueIsDecided(t *testing.T) {
	several, others := 0, 0
	for seed := range uint32(6000) {
		next := walk(seed)
		nodes := some(next)
		var ballots []api.Ballot
		for len(ballots) < 2+int(seed%5) {
			if b := bal(1+next(3), next(4)); !slices.Contains(ballots, b) {
				ballots = append(ballots, b)
			}
		}
		x := newTown(t, nodes, ballots, next(6))
		for range 120 {
			x.roam(next)
			if !x.hold(t) {
				t.Fatalf("seed %d", seed)
			}
		}
		if len(x.decided()) > 1 {
			several++
		}
		others += x.others()
	}
	if several < 500 || others < 500 {
		t.Errorf("only %d times several were Decided, %d times another one's own", several, others)
	}
}

// P11.4: whatever was done, a proposer of a greater ballot whose letters all come is Decided, and its value is what was Decided.
func TestALaterProposerLearnsWhatWasDecided(t *testing.T) {
	was := 0
	for seed := range uint32(600) {
		next := walk(seed + 9000)
		x := newTown(t, some(next), []api.Ballot{bal(2, 1), bal(1, 5), bal(3, 0), bal(9, 0)}, next(6))
		last := x.proposers[3]
		x.proposers = x.proposers[:3]
		for range 60 {
			x.roam(next)
		}
		l := x.decided()
		x.proposers, x.way = append(x.proposers, last), nil
		for range 2 {
			x.write(3)
			for len(x.way) > 0 {
				first := x.way[0]
				x.way = x.way[1:]
				x.bring(first)
			}
		}
		x.hold(t)
		if last.State() != proposer.Decided || len(last.Missing()) > 0 {
			t.Errorf("seed %d: %d, %v", seed, last.State(), last.Missing())
		}
		if len(l) > 0 {
			was++
		}
	}
	if was < 100 {
		t.Errorf("only %d times there was something Decided", was)
	}
}

// P11.4: whatever comes, letters are told by a script of bytes.
func FuzzTown(f *testing.F) {
	f.Add(uint8(3), uint8(2), []byte("carillon carillon carillon"))
	f.Add(uint8(7), uint8(5), []byte{0, 0, 1, 7, 9, 250, 3, 1, 1, 1, 2, 8, 16, 24})
	f.Add(uint8(1), uint8(1), []byte{})
	f.Fuzz(func(t *testing.T, size, count uint8, script []byte) {
		nodes := []int{6, 2, 4, 0, 1, 3, 5}[:1+size%7]
		ballots := []api.Ballot{bal(2, 1), bal(1, 6), bal(2, 0), bal(great, 6), bal(1, 0)}[:1+count%5]
		x := newTown(t, nodes, ballots, int(count))
		next := func(below int) int {
			if len(script) == 0 {
				return 0
			}
			n := int(script[0]) % below
			script = script[1:]
			return n
		}
		for len(script) > 0 {
			x.roam(next)
			x.hold(t)
		}
	})
}

// lent is a text in memory that can be written over.
func lent(s string) ([]byte, string) {
	b := []byte(s)
	return b, unsafe.String(unsafe.SliceData(b), len(b))
}

// P3: no text that was handed in is kept, nor written into.
func TestNothingHandedInIsKept(t *testing.T) {
	b := bal(2, 0)
	v, value := lent("abc")
	o, own := lent("def")
	heard, mine := begun(t, b, 0), begun(t, b, 0)
	wantPromise(t, heard, 0, acc(b, bal(1, 0), value), true)
	wantPromise(t, mine, 0, free(b), true)
	answer, _ := mine.Tell(own)
	if string(v) != "abc" || string(o) != "def" {
		t.Error("written into")
	}
	copy(v, "!!!")
	copy(o, "!!!")
	wantTell(t, heard, "own", "abc", api.OK)
	wantStands(t, heard, proposer.Telling, "abc", 0)
	wantTell(t, mine, "own", "def", api.OK)
	wantStands(t, mine, proposer.Telling, "def", 0)
	if answer != "def" {
		t.Errorf("%q", answer)
	}
}

// P3: no two answers share memory.
func TestAnswersAreNewMemory(t *testing.T) {
	b, handed := bal(2, 0), "abc"
	p := begun(t, b, 0)
	wantPromise(t, p, 0, acc(b, bal(1, 0), handed), true)
	one, _ := p.Tell("own")
	two, _ := p.Tell("own")
	l := []string{handed, one, two, p.Value(), p.Value()}
	wantTaken(t, p, 0, true)
	three, _ := p.Tell("own")
	l = append(l, three, p.Value())
	for i, s := range l {
		for _, other := range l[:i] {
			if s != "abc" || unsafe.StringData(s) == unsafe.StringData(other) {
				t.Errorf("%d: %q; or it shares its bytes", i, s)
			}
		}
	}
}

// P3: a list of Missing is the caller's own, its spare room too, and is as it was whatever is done then.
func TestMissingIsNewMemory(t *testing.T) {
	b := bal(2, 0)
	p := begun(t, b, 0, 1, 2)
	first, second := p.Missing(), p.Missing()
	for i := range first {
		first[i] = 9
	}
	for i := range first[:cap(first)] {
		first[:cap(first)][i] = 9
	}
	if !slices.Equal(second, []int{0, 1, 2}) {
		t.Errorf("%v", second)
	}
	wantStands(t, p, proposer.Asking, "", 0, 1, 2)
	wantPromise(t, p, 1, free(b), true)
	wantPromise(t, p, 0, free(b), true)
	wantTell(t, p, "x", "x", api.OK)
	wantTaken(t, p, 0, true)
	if !slices.Equal(second, []int{0, 1, 2}) {
		t.Errorf("%v", second)
	}
}

// P4: proposers that are asked the same tell the same, whatever is done with others beside them.
func TestAnswersHangOnTheProposerAlone(t *testing.T) {
	var all sync.WaitGroup
	for range 8 {
		all.Go(func() {
			for seed := range uint32(50) {
				next := walk(seed)
				nodes := some(next)
				b := bal(2, 3)
				p, e := proposer.New(b, nodes)
				if e != api.OK {
					t.Errorf("New: %d", e)
					return
				}
				x := &plain{ballot: b, nodes: nodes}
				for range 30 {
					anyCall(next, b).do(t, p, x)
				}
			}
		})
	}
	all.Wait()
}

// P2: what is asked changes nothing, and what is refused changes nothing that a later call could tell.
func TestRefusalsChangeNothing(t *testing.T) {
	b := bal(2, 0)
	for i, p := range []*proposer.Proposer{begun(t, b, 0, 1, 2), told(t, b, "x", 0, 1, 2), decided(t, b, "x", 0, 1, 2)} {
		was := fmt.Sprint(p.State(), p.Value(), p.Missing())
		for range 3 {
			wantPromise(t, p, 3, free(b), false)
			wantPromise(t, p, 0, free(bal(1, 0)), false)
			wantTaken(t, p, 3, false)
			if i == proposer.Asking {
				wantTell(t, p, "y", "", api.ErrFew)
				wantTaken(t, p, 0, false)
			} else {
				wantTell(t, p, "y", "x", api.OK)
				wantPromise(t, p, 0, free(b), false)
			}
			if is := fmt.Sprint(p.State(), p.Value(), p.Missing()); is != was {
				t.Errorf("%s; was %s", is, was)
			}
		}
	}
}
