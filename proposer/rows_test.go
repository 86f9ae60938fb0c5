package proposer_test

import (
	"testing"

	"carillon/api"
	"carillon/proposer"
)

// calls are all ways to call a proposer of the ballot 2.1 to the nodes 0, 1 and 2, right and wrong ones.
func calls() []call {
	b := bal(2, 1)
	l := []call{{kind: 1, own: "x"}, {kind: 1, own: long}}
	for node := range 4 {
		l = append(l, call{node: node, a: free(b)}, call{kind: 2, node: node})
	}
	return append(l,
		call{node: 0, a: acc(b, bal(1, 0), "a")}, call{node: 1, a: acc(b, bal(1, 0), "b")},
		call{node: 2, a: acc(b, bal(2, 0), "")}, call{node: 0, a: free(bal(2, 2))}, call{node: 1, a: acc(b, bal(2, 2), "c")},
	)
}

// P11.2, P11.3: all rows of a few calls, from proposers of each state, held against a plain one.
func TestAllShortRows(t *testing.T) {
	b := bal(2, 1)
	promises := []call{{node: 2, a: free(b)}, {node: 0, a: acc(b, bal(1, 0), "a")}}
	own := []call{{node: 2, a: free(b)}, {node: 1, a: free(b)}, {kind: 1, own: "x"}}
	for _, ahead := range [][]call{
		nil, promises[:1], promises,
		append(promises, call{kind: 1, own: "x"}), own,
		append(own, call{kind: 2, node: 0}), append(own, call{kind: 2, node: 0}, call{kind: 2, node: 2}),
	} {
		for _, first := range calls() {
			for _, second := range calls() {
				for _, third := range calls() {
					p, x := begun(t, b, 2, 0, 1), &plain{ballot: b, nodes: []int{2, 0, 1}}
					for _, c := range ahead {
						c.do(t, p, x)
					}
					for _, c := range []call{first, second, third} {
						c.do(t, p, x)
					}
				}
			}
		}
	}
}

// some are nodes, in an order that is not sorted.
func some(next func(int) int) []int {
	l := []int{0, 1, 2, 3, 4, 5, 6}
	for i := range l {
		j := i + next(len(l)-i)
		l[i], l[j] = l[j], l[i]
	}
	return l[:1+next(len(l))]
}

// anyCall is one of all kinds, wrong ones among them, at a proposer of the ballot b.
func anyCall(next func(int) int, b api.Ballot) call {
	c := call{kind: next(4), node: next(9) - 1, own: []string{"", "x", "y", full, long}[next(5)]}
	if next(3) > 0 {
		c.kind = 2 * (c.kind % 2)
	}
	c.a = acc(b, bal(next(4), next(8)), []string{"", "a", "b", "c", "d"}[next(5)])
	switch next(8) {
	case 0:
		c.a.Promised = bal(b.Round+next(3)-1, next(7))
	case 1:
		c.a.Taken = b
	case 2, 3, 4:
		c.a.Taken, c.a.Value = bal(0, 0), ""
	}
	return c
}

// P11.1 to P11.3: long rows at proposers to nodes of all numbers.
func TestLongRows(t *testing.T) {
	states := [3]int{}
	for seed := range uint32(3000) {
		next := walk(seed)
		nodes := some(next)
		b := bal(2+next(2), next(7))
		p, x := begun(t, b, nodes...), &plain{ballot: b, nodes: nodes}
		for range 60 {
			anyCall(next, b).do(t, p, x)
			states[p.State()]++
		}
	}
	for state, times := range states {
		if times < 10000 {
			t.Errorf("state %d: only %d times", state, times)
		}
	}
}

// P1, P11.1 to P11.3: a ballot, nodes and calls of all kinds, held against a plain proposer.
func FuzzCalls(f *testing.F) {
	f.Add(2, 1, []byte{2, 0, 1}, []byte("abcdefghijklmnop"))
	f.Add(2, 1, []byte{0}, []byte{0, 0, 0, 0, 1, 0, 0, 0, 2, 0, 0, 0})
	f.Add(great, 6, []byte{6, 5, 4, 3, 2, 1, 0}, []byte{})
	f.Add(0, 0, []byte{0}, []byte{1})
	f.Add(1, 0, []byte{0, 0}, []byte{1})
	f.Fuzz(func(t *testing.T, round, number int, numbers, script []byte) {
		b := bal(round, number)
		nodes := []int{}
		times := [256]int{}
		wrong := round < 1 || round > great || number < 0 || number > 6 || len(numbers) < 1
		for _, k := range numbers {
			nodes = append(nodes, int(k))
			times[k]++
			wrong = wrong || k > 6 || times[k] > 1
		}
		if wrong {
			wantNoNew(t, b, nodes)
			return
		}
		p, x := begun(t, b, nodes...), &plain{ballot: b, nodes: nodes}
		for len(script) >= 4 {
			c := call{kind: int(script[0] % 3), node: int(int8(script[1])), own: string(script[:4])}
			c.a = acc(b, bal(int(script[2])-1, int(script[3])%9-1), string(script[2:3]))
			switch script[0] / 3 % 4 {
			case 0:
				c.a = free(b)
			case 1:
				c.a.Promised = bal(int(script[2]), int(script[3]))
			}
			c.do(t, p, x)
			script = script[4:]
		}
	})
}

// P11.1 to P11.3: two proposers of one ballot know nothing of each other.
func TestProposersAreApart(t *testing.T) {
	b := bal(2, 0)
	one, two := told(t, b, "one", 0, 1, 2), begun(t, b, 0, 1, 2)
	wantTaken(t, one, 0, true)
	wantStands(t, two, proposer.Asking, "", 0, 1, 2)
	wantPromise(t, two, 1, free(b), true)
	wantPromise(t, two, 2, acc(b, bal(1, 0), "two"), true)
	wantTell(t, two, "own", "two", api.OK)
	wantStands(t, one, proposer.Telling, "one", 1, 2)
	wantTaken(t, two, 0, true)
	wantTaken(t, two, 1, true)
	wantStands(t, two, proposer.Decided, "two", 2)
	wantStands(t, one, proposer.Telling, "one", 1, 2)
}
