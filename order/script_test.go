package order_test

import (
	"math"
	"slices"
	"sync"
	"testing"
	"unsafe"

	"carillon/api"
	"carillon/order"
)

// eachScript does each script of up to so many steps, on an order that is made anew each time.
func eachScript(t *testing.T, length int, begin func() *both, steps []func(b *both)) {
	t.Helper()
	for length := range length + 1 {
		many := 1
		for range length {
			many *= len(steps)
		}
		for script := range many {
			b := begin()
			for range length {
				steps[script%len(steps)](b)
				script /= len(steps)
			}
			b.hold(t)
		}
	}
}

// P18.2, P18.3: each script of up to five steps at the sequencer of views of one to four nodes, against a plain one.
func TestEachShortScriptAtTheSequencer(t *testing.T) {
	t.Parallel()
	for _, nodes := range [][]int{{1}, {1, 3}, {1, 3, 4}, {1, 3, 4, 6}} {
		eachScript(t, 5, func() *both { return bothOf(t, 1, nodes, "a") }, []func(b *both){
			func(b *both) { b.propose(t, "b") },
			func(b *both) { b.has(t, 3, len(b.p.log)) },
			func(b *both) { b.has(t, 3, 2) },
			func(b *both) { b.has(t, 4, len(b.p.log)) },
			func(b *both) { b.has(t, 4, 1) },
			func(b *both) { b.has(t, 6, 3) },
			func(b *both) { b.learn(t, len(b.p.log)) },
			func(b *both) { b.add(t, len(b.p.log), "c") },
		})
	}
}

// P18.2, P18.3: each script of up to six steps at another node.
func TestEachShortScriptAtAnotherNode(t *testing.T) {
	t.Parallel()
	eachScript(t, 6, func() *both { return bothOf(t, 3, []int{1, 3, 4}, "a") }, []func(b *both){
		func(b *both) { b.add(t, len(b.p.log), "b") },
		func(b *both) { b.add(t, 2, "c") },
		func(b *both) { b.learn(t, len(b.p.log)) },
		func(b *both) { b.learn(t, b.p.sure()+1) },
		func(b *both) { b.learn(t, 9) },
		func(b *both) { b.has(t, 4, len(b.p.log)) },
		func(b *both) { b.propose(t, "d") },
	})
}

// pick is one of a list.
func pick[T any](next func(int) int, l ...T) T { return l[next(len(l))] }

// someText is most often short, and sometimes about so long that the log is just full with it.
func someText(next func(int) int, b *both) string {
	if next(30) == 0 {
		return size("g", max(api.MaxLog-counted(b.p.log)-4+next(5)-2, 0))
	}
	if next(10) == 0 {
		return size("m", next(3000))
	}
	return size(string(rune('a'+next(26))), next(6))
}

// someStep does one thing of all that can be done.
func someStep(t *testing.T, next func(int) int, b *both) {
	t.Helper()
	marks := []int{0, len(b.p.log), len(b.p.log), b.p.sure(), b.p.ahead, len(b.p.log) / 2}
	mark := func() int { return pick(next, marks...) + pick(next, 0, 0, 0, 1, -1, 2) }
	node := pick(next, b.p.nodes...)
	if next(12) == 0 {
		node = next(10) - 1
	}
	switch next(12) {
	case 0, 1, 2:
		b.propose(t, someText(next, b))
	case 3, 4, 5:
		b.add(t, max(len(b.p.log), pick(next, 0, mark())), someText(next, b))
	case 6:
		b.add(t, mark(), someText(next, b))
	case 7, 8:
		b.learn(t, mark())
	case 9:
		b.wants(t, node, mark())
	default:
		b.has(t, node, mark())
	}
}

// P18.1 to P18.3: long scripts at all nodes of views of all numbers, in any order, refusals among them, against plain ones.
func TestLongScripts(t *testing.T) {
	t.Parallel()
	full, sure := 0, 0
	for seed := range uint32(700) {
		next := walk(seed)
		nodes := pick(next, fewViews()...)
		self := pick(next, nodes[0], pick(next, nodes...))
		b := bothOf(t, self, nodes, texts(next(4))...)
		for range 100 {
			someStep(t, next, b)
			if next(5) == 0 {
				b.hold(t)
			}
		}
		b.hold(t)
		if b.o.Bytes() > api.MaxLog-4 {
			full++
		}
		if len(nodes) > 1 {
			sure += b.o.Sure() - b.p.ahead
		}
	}
	if full < 100 || sure < 4000 {
		t.Errorf("only %d were full, %d texts became sure", full, sure)
	}
}

// P1, P18.1 to P18.3: nodes, a log and scripts of all kinds, against plain ones.
func FuzzScript(f *testing.F) {
	f.Add(0, []byte{0, 1, 2}, 3, []byte("carillon carillon carillon"))
	f.Add(4, []byte{4}, 0, []byte{0, 7, 8, 16, 33, 1, 2, 3})
	f.Add(6, []byte{0, 6}, 1, []byte{9, 255, 3, 1, 1, 250, 40, 4})
	f.Add(1, []byte{1, 1}, 1, []byte{})
	f.Add(7, []byte{0, 1}, 1, []byte{})
	f.Add(0, []byte{}, 0, []byte{})
	f.Fuzz(func(t *testing.T, self int, numbers []byte, many int, script []byte) {
		var nodes []int
		for _, n := range numbers {
			nodes = append(nodes, int(n))
		}
		rising := slices.IsSorted(nodes) && len(slices.Compact(slices.Clone(nodes))) == len(nodes)
		if !rising || len(nodes) == 0 || nodes[len(nodes)-1] > 6 || !slices.Contains(nodes, self) {
			wantNoNew(t, self, nodes)
			return
		}
		b := bothOf(t, self, nodes, texts(max(many, 0)%50)...)
		script = script[:min(len(script), 1000)]
		next := func(below int) int {
			if len(script) == 0 {
				return 0
			}
			n := int(script[0]) % below
			script = script[1:]
			return n
		}
		for len(script) > 0 {
			someStep(t, next, b)
		}
		b.hold(t)
	})
}

// P1: numbers at the edges of what there is, in each place of each call; none changes anything.
func TestNumbersAtTheEdges(t *testing.T) {
	edges := append(noNodes(), math.MaxInt-1, math.MinInt+1, math.MaxInt32, math.MinInt32, math.MaxInt/2)
	for _, self := range []int{0, 1} {
		o := begun(t, self, []int{0, 1, 2}, texts(2)...)
		was := state(o)
		for _, n := range edges {
			wantAdd(t, o, n, "x", false)
			wantHas(t, o, n, 1, false)
			for _, m := range edges {
				wantHas(t, o, n, m, false)
				wantWants(t, o, n, m, -1)
			}
			wantLearn(t, o, n, false)
		}
		same(t, "all", o, was)
	}
}

// lent tells a text over bytes that may be written into later.
func lent(s string) (string, []byte) {
	b := []byte(s)
	return unsafe.String(unsafe.SliceData(b), len(b)), b
}

// P3: neither nodes nor log are kept, nor written into, nor what stands behind them in their arrays; nor is a text that is proposed, or added.
func TestNothingHandedInIsKept(t *testing.T) {
	for _, self := range []int{1, 3} {
		room, nodes := []int{1, 3, 4, 5, 6}, []int{1, 3, 4}
		a, bytesOfA := lent("aa")
		x, bytesOfX := lent("xx")
		log := []string{a, "b", "c", "d"}
		o, want := begun(t, self, room[:3], log[:2]...), begun(t, self, nodes, "aa", "b")
		for _, s := range []string{x, "y"} {
			o.Propose(s)
			o.Add(o.Len(), s)
			want.Propose(s)
			want.Add(want.Len(), s)
		}
		o.Has(3, 3)
		want.Has(3, 3)
		if !slices.Equal(room, []int{1, 3, 4, 5, 6}) || !slices.Equal(log, []string{"aa", "b", "c", "d"}) || x != "xx" {
			t.Errorf("written into: %v, %q, %q", room, log, x)
		}
		copy(room, []int{6, 5, 0, 2, 1})
		copy(log, []string{"!", "!", "!", "!"})
		copy(bytesOfA, "!!")
		copy(bytesOfX, "!!")
		same(t, "what was handed in is written into", o, state(want))
		if o.Has(4, 4) != want.Has(4, 4) || o.Has(5, 1) || o.Has(0, 1) {
			t.Errorf("at %d: Has", self)
		}
		same(t, "Has", o, state(want))
	}
}

// P3: the list that Log takes is its own: New of a list with spare room does not write there.
func TestSpareRoomOfALogIsNotWrittenInto(t *testing.T) {
	log := make([]string, 1, 9)
	log[0] = "a"
	first, other := begun(t, 0, []int{0, 1}, log...), begun(t, 1, []int{0, 1}, log...)
	wantPropose(t, first, "b", 1, api.OK)
	wantAdd(t, other, 1, "c", true)
	wantLog(t, first, "a", "b")
	wantLog(t, other, "a", "c")
	if spare := log[:9]; !slices.Equal(spare[1:], make([]string, 8)) {
		t.Errorf("%q", spare)
	}
}

// spoil writes over a list, its spare room too, and over the bytes of its texts.
func spoil(l []string) {
	for i, s := range l {
		b := unsafe.Slice(unsafe.StringData(s), len(s))
		for k := range b {
			b[k] = '!'
		}
		l[i] = "?"
	}
	l = l[:cap(l)]
	for i := range l {
		l[i] = "?"
	}
}

// P3: what Log and Wants tell is new memory, spare room and texts too: not the order's, nor another answer's.
func TestAnswersAreNewMemory(t *testing.T) {
	for n := range 12 {
		o := proposed(t, []int{0, 1, 2}, 2, n)
		other := begun(t, 1, []int{0, 1, 2}, texts(2+n)...)
		was, wasOther := state(o), state(other)
		ask := func() [][]string {
			_, one := o.Wants(1, 2)
			_, two := o.Wants(1, 99)
			_, three := o.Wants(2, 99)
			_, none := o.Wants(1, 0)
			return [][]string{o.Log(), one, two, three, none, other.Log()}
		}
		want, got := ask(), ask()
		for i, l := range got {
			spoil(l)
			for k := i + 1; k < len(got); k++ {
				if !slices.Equal(got[k], want[k]) {
					t.Errorf("behind the answer %d: %q; want %q", i, got[k], want[k])
				}
			}
		}
		same(t, "spoil", o, was)
		same(t, "spoil", other, wasOther)
		wantPropose(t, o, "z", 2+n, api.OK)
		if !slices.Equal(got[0], slices.Repeat([]string{"?"}, 2+n)) {
			t.Errorf("Propose wrote into what Log told: %q", got[0])
		}
	}
}

// P3, P4: two orders share nothing, also of one list of nodes and one log.
func TestTwoShareNothing(t *testing.T) {
	nodes, log := []int{0, 1, 2}, texts(3)
	a, b, c := begun(t, 0, nodes, log...), begun(t, 0, nodes, log...), begun(t, 1, nodes, log...)
	was, wasOther := state(b), state(c)
	wantPropose(t, a, "a", 3, api.OK)
	wantHas(t, a, 1, 4, true)
	same(t, "what was done with another one", b, was)
	same(t, "what was done with another one", c, wasOther)
	wantPropose(t, b, "b", 3, api.OK)
	wantAdd(t, c, 3, "c", true)
	wantLearn(t, c, 4, true)
	wantSure(t, a, 4)
	wantSure(t, b, 3)
	wantLog(t, a, append(texts(3), "a")...)
	wantLog(t, b, append(texts(3), "b")...)
}

// P4: what is asked changes nothing, however often, and hangs on nothing that others do beside it.
func TestManyBesideEachOther(t *testing.T) {
	var workers sync.WaitGroup
	for range 8 {
		workers.Go(func() {
			for n := range 100 {
				o, e := order.New(2, []int{2, 3, 5}, []string{"a"})
				if e != api.OK {
					t.Error(e)
					return
				}
				for range n {
					o.Propose("b")
				}
				was := state(o)
				if !o.Has(5, 1+n) || o.Sure() != 1+n || state(o) == was && n > 0 || state(o) != state(o) {
					t.Errorf("%d: %s", n, state(o))
				}
			}
		})
	}
	workers.Wait()
}
