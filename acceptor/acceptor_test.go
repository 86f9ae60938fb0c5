package acceptor_test

import (
	"math"
	"testing"

	"carillon/acceptor"
	"carillon/api"
)

func wantPrepare(t *testing.T, a api.Acceptor, b api.Ballot, want api.Acceptor, yes bool) {
	t.Helper()
	if got, ok := acceptor.Prepare(a, b); got != want || ok != yes {
		t.Errorf("Prepare(%s; %d.%d): %s, %v; want %s, %v", shown(a), b.Round, b.Node, shown(got), ok, shown(want), yes)
	}
}

func wantTake(t *testing.T, a api.Acceptor, b api.Ballot, value string, want api.Acceptor, yes bool) {
	t.Helper()
	if got, ok := acceptor.Take(a, b, value); got != want || ok != yes {
		t.Errorf("Take(%s; %d.%d, %s): %s, %v; want %s, %v", shown(a), b.Round, b.Node, brief(value), shown(got), ok, shown(want), yes)
	}
}

// P10.2: the chapter's examples, line by line.
func TestExamples(t *testing.T) {
	promised := acc(bal(2, 1), bal(0, 0), "")
	wantPrepare(t, api.Acceptor{}, bal(2, 1), promised, true)
	wantPrepare(t, promised, bal(1, 5), promised, false)
	taken := acc(bal(2, 1), bal(2, 1), "x")
	wantTake(t, promised, bal(2, 1), "x", taken, true)

	wantTake(t, taken, bal(2, 1), "y", taken, false)
	wantTake(t, taken, bal(2, 0), "y", taken, false)
	wantTake(t, taken, bal(3, 0), "y", acc(bal(3, 0), bal(3, 0), "y"), true)
}

// P10.1: the edges of a Round and of a Node, none, and what is beyond them.
func TestRight(t *testing.T) {
	for _, b := range rising() {
		if !acceptor.Right(b) {
			t.Errorf("%v: not right", b)
		}
	}
	for node := range api.MaxNodes {
		if !acceptor.Right(bal(1, node)) || !acceptor.Right(bal(great, node)) {
			t.Errorf("node %d: not right", node)
		}
	}
	for _, b := range append(wrongBallots(), bal(0, 0)) {
		if acceptor.Right(b) {
			t.Errorf("%v: right", b)
		}
	}
}

// P10.1: the Round first, then the Node: of a list that rises each one is less than those behind it, and than no other.
func TestLess(t *testing.T) {
	l := []api.Ballot{bal(math.MinInt, math.MinInt), bal(math.MinInt, 0), bal(math.MinInt, math.MaxInt), bal(-1, 0), bal(-1, 9), bal(0, math.MinInt), bal(0, -1), bal(0, 0), bal(0, 1), bal(0, 7), bal(1, -1)}
	l = append(l, rising()...)
	l = append(l, bal(great, 7), bal(great+1, -1), bal(great+1, 0), bal(math.MaxInt, math.MinInt), bal(math.MaxInt, -1), bal(math.MaxInt, math.MaxInt))
	for i, a := range l {
		for j, b := range l {
			if acceptor.Less(a, b) != (i < j) {
				t.Errorf("Less(%v, %v): %v", a, b, i >= j)
			}
		}
	}
}

// P10.1: none is less than all right ones.
func TestNoneIsLess(t *testing.T) {
	none := bal(0, 0)
	for _, b := range append(rising(), bal(1, 0)) {
		if !acceptor.Less(none, b) || acceptor.Less(b, none) || acceptor.Less(b, b) {
			t.Errorf("none and %v", b)
		}
	}
	if acceptor.Less(none, none) {
		t.Error("none is less than itself")
	}
}

// P10.2: what is promised is b, what was taken stays; the same ballot is promised again.
func TestPrepare(t *testing.T) {
	none := bal(0, 0)
	for _, c := range []struct {
		a    api.Acceptor
		b    api.Ballot
		want api.Acceptor
		yes  bool
	}{
		{api.Acceptor{}, bal(1, 0), acc(bal(1, 0), none, ""), true},
		{api.Acceptor{}, bal(great, 6), acc(bal(great, 6), none, ""), true},
		{acc(bal(2, 1), none, ""), bal(2, 1), acc(bal(2, 1), none, ""), true},
		{acc(bal(2, 1), none, ""), bal(2, 2), acc(bal(2, 2), none, ""), true},
		{acc(bal(2, 1), none, ""), bal(2, 0), acc(bal(2, 1), none, ""), false},
		{acc(bal(2, 1), none, ""), bal(1, 6), acc(bal(2, 1), none, ""), false},
		{acc(bal(2, 6), none, ""), bal(3, 0), acc(bal(3, 0), none, ""), true},
		{acc(bal(2, 1), bal(2, 1), "x"), bal(2, 1), acc(bal(2, 1), bal(2, 1), "x"), true},
		{acc(bal(2, 1), bal(2, 1), "x"), bal(3, 0), acc(bal(3, 0), bal(2, 1), "x"), true},
		{acc(bal(2, 1), bal(1, 1), "x"), bal(2, 1), acc(bal(2, 1), bal(1, 1), "x"), true},
		{acc(bal(2, 1), bal(1, 1), "x"), bal(1, 1), acc(bal(2, 1), bal(1, 1), "x"), false},
		{acc(bal(2, 1), bal(1, 1), "x"), bal(1, 2), acc(bal(2, 1), bal(1, 1), "x"), false},
		{acc(bal(2, 1), bal(1, 1), ""), bal(2, 2), acc(bal(2, 2), bal(1, 1), ""), true},
		{acc(bal(2, 1), bal(1, 1), full), bal(2, 2), acc(bal(2, 2), bal(1, 1), full), true},
		{acc(bal(great, 5), none, ""), bal(great, 6), acc(bal(great, 6), none, ""), true},
		{acc(bal(great, 6), none, ""), bal(great, 5), acc(bal(great, 6), none, ""), false},
	} {
		wantPrepare(t, c.a, c.b, c.want, c.yes)
	}
}

// P10.2: a ballot that was taken is taken again with its own value alone; another one with any value.
func TestTake(t *testing.T) {
	none := bal(0, 0)
	old := acc(bal(2, 1), bal(1, 1), "x")
	for _, c := range []struct {
		a     api.Acceptor
		b     api.Ballot
		value string
		want  api.Acceptor
		yes   bool
	}{
		{api.Acceptor{}, bal(1, 0), "", acc(bal(1, 0), bal(1, 0), ""), true},
		{api.Acceptor{}, bal(great, 6), full, acc(bal(great, 6), bal(great, 6), full), true},
		{api.Acceptor{}, bal(1, 0), long, api.Acceptor{}, false},
		{acc(bal(2, 1), none, ""), bal(2, 1), "x", acc(bal(2, 1), bal(2, 1), "x"), true},
		{acc(bal(2, 1), none, ""), bal(2, 2), "x", acc(bal(2, 2), bal(2, 2), "x"), true},
		{acc(bal(2, 1), none, ""), bal(2, 0), "x", acc(bal(2, 1), none, ""), false},
		{acc(bal(2, 1), none, ""), bal(1, 6), "x", acc(bal(2, 1), none, ""), false},
		{old, bal(2, 1), "y", acc(bal(2, 1), bal(2, 1), "y"), true},
		{old, bal(2, 1), "", acc(bal(2, 1), bal(2, 1), ""), true},
		{old, bal(1, 1), "x", old, false},
		{old, bal(1, 1), "y", old, false},
		{old, bal(1, 2), "x", old, false},
		{old, bal(2, 1), long, old, false},
		{acc(bal(2, 1), bal(2, 1), "x"), bal(2, 1), "x", acc(bal(2, 1), bal(2, 1), "x"), true},
		{acc(bal(2, 1), bal(2, 1), "x"), bal(2, 1), "", acc(bal(2, 1), bal(2, 1), "x"), false},
		{acc(bal(2, 1), bal(2, 1), "x"), bal(2, 1), "xx", acc(bal(2, 1), bal(2, 1), "x"), false},
		{acc(bal(2, 1), bal(2, 1), ""), bal(2, 1), "", acc(bal(2, 1), bal(2, 1), ""), true},
		{acc(bal(2, 1), bal(2, 1), ""), bal(2, 1), "x", acc(bal(2, 1), bal(2, 1), ""), false},
		{acc(bal(2, 1), bal(2, 1), ""), bal(2, 1), "\x00", acc(bal(2, 1), bal(2, 1), ""), false},
		{acc(bal(2, 1), bal(2, 1), full), bal(2, 1), full, acc(bal(2, 1), bal(2, 1), full), true},
		{acc(bal(2, 1), bal(2, 1), full), bal(2, 1), other, acc(bal(2, 1), bal(2, 1), full), false},
		{acc(bal(2, 1), bal(2, 1), full), bal(2, 1), long, acc(bal(2, 1), bal(2, 1), full), false},
		{acc(bal(2, 1), bal(2, 1), full), bal(2, 2), other, acc(bal(2, 2), bal(2, 2), other), true},
		{acc(bal(2, 1), bal(2, 1), "x"), bal(3, 1), "x", acc(bal(3, 1), bal(3, 1), "x"), true},
		{acc(bal(2, 1), bal(2, 1), "x"), bal(2, 2), "y", acc(bal(2, 2), bal(2, 2), "y"), true},
	} {
		wantTake(t, c.a, c.b, c.value, c.want, c.yes)
	}
}

// P10.2: each right acceptor with each ballot, right or not, and none, and with values of all kinds.
func TestEachAcceptorEachBallot(t *testing.T) {
	ballots := append(rising(), wrongBallots()...)
	ballots = append(ballots, bal(0, 0))
	for _, a := range right() {
		for _, b := range ballots {
			want, yes := plainPrepare(a, b)
			wantPrepare(t, a, b, want, yes)
			for _, value := range []string{"", "x", "y", full, other, long} {
				want, yes := plainTake(a, b, value)
				wantTake(t, a, b, value, want, yes)
			}
		}
	}
}

// P10.2: a ballot that is not right, or none, is neither promised nor taken, and what was handed in is told.
func TestWrongBallots(t *testing.T) {
	for _, b := range append(wrongBallots(), bal(0, 0)) {
		for _, a := range []api.Acceptor{{}, acc(bal(1, 0), bal(0, 0), ""), acc(bal(2, 1), bal(1, 0), "x"), acc(bal(2, 1), bal(2, 1), "")} {
			wantPrepare(t, a, b, a, false)
			wantTake(t, a, b, "", a, false)
			wantTake(t, a, b, a.Value, a, false)
		}
	}
}

// P10.2: an acceptor that is not right promises and takes nothing, and is told as it was handed in.
func TestWrongAcceptors(t *testing.T) {
	for _, a := range wrong() {
		for _, b := range append(rising(), a.Promised, a.Taken, bal(0, 0)) {
			wantPrepare(t, a, b, a, false)
			wantTake(t, a, b, "x", a, false)
			wantTake(t, a, b, a.Value, a, false)
		}
	}
}
