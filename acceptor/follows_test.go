package acceptor_test

import (
	"sync"
	"testing"
	"unsafe"

	"carillon/acceptor"
	"carillon/api"
	"carillon/codec"
)

// step is a Prepare, or a Take of a value.
type step struct {
	take  bool
	b     api.Ballot
	value string
}

// history looks all up in what an acceptor has done: the greatest ballot that it promised, and the values that it took.
type history struct {
	least  api.Ballot // below this one nothing is taken
	taken  api.Ballot
	values map[api.Ballot]string
}

// newHistory begins where an acceptor stands.
func newHistory(a api.Acceptor) *history {
	h := &history{least: a.Promised, taken: a.Taken, values: map[api.Ballot]string{}}
	if a.Taken.Round > 0 {
		h.values[a.Taken] = a.Value
	}
	return h
}

// follow does a step at an acceptor, and holds what comes of it against what was done ahead of it.
func (h *history) follow(t *testing.T, a api.Acceptor, s step) api.Acceptor {
	t.Helper()
	var next, want api.Acceptor
	var ok, yes bool
	if s.take {
		next, ok = acceptor.Take(a, s.b, s.value)
		want, yes = plainTake(a, s.b, s.value)
	} else {
		next, ok = acceptor.Prepare(a, s.b)
		want, yes = plainPrepare(a, s.b)
	}
	if next != want || ok != yes {
		t.Errorf("%s; %+v: %s, %v; want %s, %v", shown(a), s.b, shown(next), ok, shown(want), yes)
	}
	if !ok && next != a {
		t.Errorf("%s; %+v: refused, and yet %s", shown(a), s.b, shown(next))
	}
	h.hold(t, next, s, ok)
	return next
}

func (h *history) hold(t *testing.T, next api.Acceptor, s step, ok bool) {
	t.Helper()
	if plainKey(next.Promised) < plainKey(h.least) || plainKey(next.Taken) < plainKey(h.taken) {
		t.Errorf("less than ahead: %s; was %v, %v", shown(next), h.least, h.taken)
	}
	if ok && plainKey(s.b) < plainKey(h.least) {
		t.Errorf("%v is below %v, which was promised", s.b, h.least)
	}
	if ok && s.take {
		if value, was := h.values[s.b]; was && value != s.value {
			t.Errorf("%v was taken with %s, and then with %s", s.b, brief(value), brief(s.value))
		}
		h.values[s.b] = s.value
	}
	if next.Taken.Round > 0 && h.values[next.Taken] != next.Value {
		t.Errorf("%s: %v was taken with %s", shown(next), next.Taken, brief(h.values[next.Taken]))
	}
	h.least, h.taken = next.Promised, next.Taken
	wantEncode(t, next, plainCode(next), api.OK) // what was right stays right
}

// steps are all ways to Prepare and Take some ballots, with two values, and with ballots that are not right.
func steps() []step {
	var l []step
	for _, b := range []api.Ballot{bal(1, 0), bal(1, 1), bal(2, 0), bal(2, 6), bal(great, 0)} {
		l = append(l, step{b: b}, step{true, b, "x"}, step{true, b, ""})
	}
	return append(l, step{b: bal(0, 0)}, step{true, bal(0, 0), ""}, step{true, bal(2, 7), "x"}, step{true, bal(2, 0), long})
}

// P10.4: all rows of three steps, from each way of standing.
func TestAllShortRows(t *testing.T) {
	for _, a := range []api.Acceptor{{}, acc(bal(1, 1), bal(0, 0), ""), acc(bal(2, 0), bal(1, 0), "x"), acc(bal(1, 1), bal(1, 1), "y")} {
		for _, first := range steps() {
			for _, second := range steps() {
				for _, third := range steps() {
					h, x := newHistory(a), a
					for _, s := range []step{first, second, third} {
						x = h.follow(t, x, s)
					}
				}
			}
		}
	}
}

// walk tells numbers below a bound, without a random source.
func walk(seed uint32) func(below int) int {
	return func(below int) int {
		seed = seed*1664525 + 1013904223
		return int(seed>>8) % below
	}
}

// P10.4: long rows whose ballots rise slowly, so that many are below what was promised and many are the same.
func TestLongRows(t *testing.T) {
	values := []string{"", "x", "y", "\x00", full}
	for seed := range uint32(40) {
		next := walk(seed)
		var a api.Acceptor
		h := newHistory(a)
		done := 0
		for range 400 {
			s := step{take: next(2) == 0, b: bal(a.Promised.Round+next(4)-2, next(9)-1), value: values[next(len(values)*(1+next(2)))%len(values)]}
			if next(3) == 0 {
				s.b = a.Promised
			}
			was := a
			a = h.follow(t, a, s)
			if a != was {
				done++
			}
		}
		if done < 20 {
			t.Errorf("seed %d: only %d steps did anything", seed, done)
		}
	}
}

// P10.4: behind Prepare of b, and whatever follows it, nothing is taken of a ballot below b, nor promised.
func TestBehindAPrepare(t *testing.T) {
	for i, b := range rising() {
		for _, a := range right() {
			promised, ok := acceptor.Prepare(a, b)
			if !ok {
				continue
			}
			taken, ok := acceptor.Take(promised, b, a.Value) // its own value, if b is a's Taken
			if !ok {
				t.Errorf("Take(%s; %v): not taken", shown(promised), b)
			}
			for _, below := range rising()[:i] {
				for _, x := range []api.Acceptor{promised, taken} {
					wantPrepare(t, x, below, x, false)
					wantTake(t, x, below, "z", x, false)
					wantTake(t, x, below, x.Value, x, false)
				}
			}
		}
	}
}

// P10.4: what an acceptor's code is read as goes on as the acceptor does: it forgets nothing over a crash.
func TestRowsOverACode(t *testing.T) {
	for seed := range uint32(20) {
		next := walk(seed + 100)
		var a api.Acceptor
		h := newHistory(a)
		for range 100 {
			a = h.follow(t, a, step{take: next(2) == 0, b: bal(1+next(6), next(7)), value: []string{"", "x", "y"}[next(3)]})
			s, e := acceptor.Encode(a)
			back, f := acceptor.Decode(s)
			if back != a || e != api.OK || f != api.OK {
				t.Errorf("%s: %s, %d, %d", shown(a), shown(back), e, f)
			}
			a = back
		}
	}
}

// lent is a text in memory that can be written over.
func lent(s string) ([]byte, string) {
	b := []byte(s)
	return b, unsafe.String(unsafe.SliceData(b), len(b))
}

// P3: what a call answers shares no memory with what was handed in, and nothing that was handed in is written into.
func TestAnswersAreNewMemory(t *testing.T) {
	b, old := lent("abc")
	v, value := lent("def")
	a := acc(bal(2, 1), bal(1, 0), old)
	prepared, _ := acceptor.Prepare(a, bal(2, 2))
	refused, _ := acceptor.Prepare(a, bal(1, 2))
	taken, _ := acceptor.Take(a, bal(2, 2), value)
	untaken, _ := acceptor.Take(a, bal(1, 2), value)
	s, _ := acceptor.Encode(a)
	code, lentCode := lent(s)
	read, _ := acceptor.Decode(lentCode)
	if string(b) != "abc" || string(v) != "def" || string(code) != s {
		t.Error("written into")
	}
	copy(b, "!!!")
	copy(v, "!!!")
	clear(code)
	for _, c := range []struct{ got, want api.Acceptor }{
		{prepared, acc(bal(2, 2), bal(1, 0), "abc")},
		{refused, acc(bal(2, 1), bal(1, 0), "abc")},
		{taken, acc(bal(2, 2), bal(2, 2), "def")},
		{untaken, acc(bal(2, 1), bal(1, 0), "abc")},
		{read, acc(bal(2, 1), bal(1, 0), "abc")},
	} {
		if c.got != c.want {
			t.Errorf("%s; want %s", shown(c.got), shown(c.want))
		}
	}
	if s != plainCode(acc(bal(2, 1), bal(1, 0), "abc")) {
		t.Errorf("%q", s)
	}
}

// P4: the same arguments, the same answer, whatever is asked between and beside it.
func TestAnswersHangOnArgumentsAlone(t *testing.T) {
	a := acc(bal(2, 1), bal(1, 0), "x")
	var all sync.WaitGroup
	for range 8 {
		all.Go(func() {
			for range 50 {
				wantPrepare(t, a, bal(3, 0), acc(bal(3, 0), bal(1, 0), "x"), true)
				wantTake(t, a, bal(2, 1), "y", acc(bal(2, 1), bal(2, 1), "y"), true)
				wantTake(t, a, bal(1, 0), "y", a, false)
				wantEncode(t, a, plainCode(a), api.OK)
				wantDecode(t, "again", plainCode(a), a, api.OK)
			}
		})
	}
	all.Wait()
}

// P1, P2, P10.3: whatever the bytes, a decoding ends; what it takes is right, and is told back as it was.
func FuzzDecode(f *testing.F) {
	for _, a := range []api.Acceptor{{}, acc(bal(2, 1), bal(1, 5), "abc"), acc(bal(1, 5), bal(2, 1), "abc"), acc(bal(great+1, 7), bal(0, 0), ""), acc(bal(great, 6), bal(great, 6), "")} {
		f.Add(plainCode(a))
	}
	f.Add("")
	f.Add(plainCode(api.Acceptor{}) + "x")
	f.Fuzz(func(t *testing.T, s string) {
		a, e := acceptor.Decode(s)
		_, fault := codec.Decode("lblbt", s)
		switch {
		case e == api.OK:
			if !plainAcceptorRight(a) {
				t.Errorf("%s is not right", shown(a))
			}
			wantEncode(t, a, s, api.OK)
		case a != api.Acceptor{}:
			t.Errorf("%s beside %d", shown(a), e)
		case fault != api.OK && e != fault || fault == api.OK && e != api.ErrForm:
			t.Errorf("%d; the code's is %d", e, fault)
		}
	})
}

// P1, P10.1, P10.2: acceptors, ballots and values of all kinds, held against a plain acceptor.
func FuzzCalls(f *testing.F) {
	f.Add(0, 0, 0, 0, "", 2, 1, "x")
	f.Add(2, 1, 2, 1, "x", 2, 1, "y")
	f.Add(2, 1, 1, 6, "x", 2, 0, "x")
	f.Add(great, 6, 0, 0, "x", great+1, 7, "")
	f.Add(1, 0, 0, 1, "", 1, 0, "")
	f.Fuzz(func(t *testing.T, round, node, takenRound, takenNode int, value string, newRound, newNode int, newValue string) {
		a, b := acc(bal(round, node), bal(takenRound, takenNode), value), bal(newRound, newNode)
		if acceptor.Right(b) != plainBallotRight(b) {
			t.Errorf("Right(%v)", b)
		}
		if acceptor.Less(a.Promised, b) != (round < newRound || round == newRound && node < newNode) {
			t.Errorf("Less(%v, %v)", a.Promised, b)
		}
		want, yes := plainPrepare(a, b)
		wantPrepare(t, a, b, want, yes)
		want, yes = plainTake(a, b, newValue)
		wantTake(t, a, b, newValue, want, yes)
		if plainAcceptorRight(a) {
			wantEncode(t, a, plainCode(a), api.OK)
		} else {
			wantEncode(t, a, "", api.ErrArg)
		}
	})
}
