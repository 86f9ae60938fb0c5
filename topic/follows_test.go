package topic_test

import (
	"math"
	"slices"
	"sync"
	"testing"
	"unsafe"

	"carillon/api"
	"carillon/topic"
)

// P15.1, P15.2, P15.4: each script of up to six steps, of publishes, Trim, Compact and Load of Dump, against a plain topic.
func TestEachShortScript(t *testing.T) {
	steps := []func(b *both){
		func(b *both) { b.publish(t, "p", b.p.end, "k", "v") },
		func(b *both) { b.publish(t, "p", 1, "", "w") },
		func(b *both) { b.publish(t, "q", 2, "k", "x") },
		func(b *both) { b.trim(t, b.p.end-1) },
		func(b *both) { b.trim(t, b.p.low+1) },
		func(b *both) { b.compact(t, b.p.end-1) },
		func(b *both) { b.reload(t) },
	}
	for length := range 7 {
		many := 1
		for range length {
			many *= len(steps)
		}
		for script := range many {
			b := bothOf(t, "t")
			for range length {
				steps[script%len(steps)](b)
				script /= len(steps)
			}
			b.hold(t)
			b.read(t, 1, 1)
		}
	}
}

// somebody is one of few producers, so that they come again.
func somebody(next func(int) int) string {
	return []string{"p", "q", "pp", "0", "zzzzzzzzzzzzzzzzzzzz", "p", "p", "Q", ""}[next(9)]
}

// someSeq is near to the producer's last one, most often.
func someSeq(next func(int) int, p *plain, name string) int {
	if next(20) == 0 {
		return []int{-1, 0, 1, great - 1, great + 1, math.MaxInt}[next(6)]
	}
	for _, w := range p.producers {
		if w.name == name {
			return max(w.seq+next(4)-1, 0)
		}
	}
	return next(4)
}

func someKey(next func(int) int) string {
	if next(30) == 0 {
		return size("k", 100+next(2))
	}
	return []string{"", "a", "b", "c", "\x00", "ab"}[next(6)]
}

// someStep does one thing of all that can be done.
func someStep(t *testing.T, next func(int) int, b *both) {
	t.Helper()
	near := func(n int) int { return n + next(7) - 3 }
	switch next(12) {
	case 0:
		b.trim(t, b.p.low+next(4))
	case 1:
		b.trim(t, near([]int{b.p.low, b.p.end}[next(2)]))
	case 2:
		b.compact(t, near([]int{b.p.low, b.p.end, (b.p.low + b.p.end) / 2}[next(3)]))
	case 3:
		b.read(t, near([]int{b.p.low, b.p.end, (b.p.low + b.p.end) / 2}[next(3)]), near(3))
	case 4:
		b.reload(t)
	default:
		name := somebody(next)
		b.publish(t, name, someSeq(next, &b.p, name), someKey(next), size("v", next(40)))
	}
}

// P15.1 to P15.4: long scripts, with trims, compacts and Load of Dump between, against a plain topic.
func TestLongScripts(t *testing.T) {
	most := 0
	for seed := range uint32(150) {
		next := walk(seed)
		b := bothOf(t, "t")
		for range 300 {
			someStep(t, next, b)
			b.hold(t)
		}
		most = max(most, b.p.end)
	}
	if most < 60 {
		t.Errorf("only %d records", most)
	}
}

// P15.4: each Seq of a producer is in a topic at most once, and offsets rise by one with each new record, whatever is trimmed, compacted or loaded between.
func TestEachSeqOnceAndOffsetsRiseByOne(t *testing.T) {
	type asked struct {
		producer string
		seq      int
	}
	for seed := range uint32(60) {
		next := walk(1000 + seed)
		x := made(t, "t")
		got := map[asked]int{}
		for range 400 {
			switch end := x.End(); next(8) {
			case 0:
				x.Trim(next(end + 1))
			case 1:
				x.Compact(next(end + 2))
			case 2:
				if y, e := topic.Load(x.Dump()); e == api.OK {
					x = y
				}
			default:
				a := asked{[]string{"p", "q", "r"}[next(3)], next(40)}
				offset, code := x.Publish(a.producer, a.seq, someKey(next), "v")
				if code != api.ROK {
					continue
				}
				if old, again := got[a]; again && (offset != old || x.End() != end) || !again && (offset != end || x.End() != end+1) {
					t.Fatalf("%v: %d; it got %d, %v; End %d, %d", a, offset, old, again, end, x.End())
				}
				got[a] = offset
			}
			seen := map[asked]int{}
			for _, r := range x.Read(0, math.MaxInt) {
				a := asked{r.Producer, r.Seq}
				seen[a]++
				if seen[a] > 1 || got[a] != r.Offset || r.Offset < x.Low() || r.Offset >= x.End() {
					t.Fatalf("%v: %d times; %v", a, seen[a], r)
				}
			}
		}
	}
}

// P15.4: Load of Dump goes on as the topic does: both are asked the same from then on, and neither is told of the other.
func TestLoadGoesOn(t *testing.T) {
	for seed := range uint32(60) {
		next := walk(2000 + seed)
		b := bothOf(t, "t")
		for range 20 + next(100) {
			someStep(t, next, b)
		}
		y, e := topic.Load(b.x.Dump())
		if b.p.items() > 1000 {
			continue
		}
		if e != api.OK {
			t.Fatal(e)
		}
		c := &both{x: y, p: plain{b.p.form}}
		c.p.producers, c.p.records = slices.Clone(c.p.producers), slices.Clone(c.p.records)
		one, two := walk(seed), walk(seed)
		for range 100 {
			someStep(t, one, b)
			b.hold(t)
		}
		for range 100 {
			someStep(t, two, c)
			c.hold(t)
		}
		b.hold(t)
		if b.x.Dump() != c.x.Dump() {
			t.Errorf("seed %d: %q; %q", seed, b.x.Dump(), c.x.Dump())
		}
	}
}

// P15.1, P15.4: the numbers of a producer fall behind one another in all orders; what is told of each is what it got.
func TestEachOrderOfNumbers(t *testing.T) {
	for row := range 4 * 4 * 4 * 4 * 4 * 4 {
		b := bothOf(t, "t")
		for range 6 {
			b.publish(t, "p", row%4, "k", "v")
			row /= 4
		}
		b.hold(t)
	}
}

// lent tells a text over bytes that may be written into later.
func lent(s string) (string, []byte) {
	b := []byte(s)
	return unsafe.String(unsafe.SliceData(b), len(b)), b
}

// P3: nothing that is handed in is kept, nor is it written into.
func TestNothingHandedInIsKept(t *testing.T) {
	texts := []string{"name", "producer", "key", "value"}
	var in []string
	var room [][]byte
	for _, s := range texts {
		x, b := lent(s)
		in, room = append(in, x), append(room, b)
	}
	x := made(t, in[0])
	wantPublish(t, x, in[1], 1, in[2], in[3], 0, api.ROK)
	wantPublish(t, x, in[1], 1, in[2], in[3], 0, api.ROK)
	wantPublish(t, x, in[1], 2, in[2], in[3], 1, api.ROK)
	s, b := lent(x.Dump())
	y, e := topic.Load(s)
	for i, r := range append(room, b) {
		if i < 4 && string(r) != texts[i] || i == 4 && string(r) != x.Dump() {
			t.Errorf("written into: %q", r)
		}
		for j := range r {
			r[j] = '!'
		}
	}
	f := form{name: "name", end: 2, producers: []who{{"producer", 2, 1}}, records: []api.Record{rec(0, "producer", 1, "key", "value"), rec(1, "producer", 2, "key", "value")}}
	wantForm(t, x, f)
	wantPublish(t, x, "producer", 2, "", "", 1, api.ROK)
	if e != api.OK {
		t.Fatal(e)
	}
	wantForm(t, y, f)
	wantPublish(t, y, "producer", 2, "", "", 1, api.ROK)
}

// spoil writes over a list, its spare room too, and over the bytes of its texts.
func spoil(l []api.Record) {
	l = l[:cap(l)]
	for i := range l {
		for _, s := range []string{l[i].Producer, l[i].Key, l[i].Value} {
			spoilText(s)
		}
		l[i] = api.Record{Offset: -1}
	}
}

// spoilText writes over the bytes of a text that was told, as if they were its holder's own.
func spoilText(s string) {
	b := unsafe.Slice(unsafe.StringData(s), len(s))
	for i := range b {
		b[i] = '!'
	}
}

// P3: what is told is new memory, spare room and texts too: nothing that is written there is told again, nor does a later call write into it.
func TestAnswersAreNewMemory(t *testing.T) {
	x := made(t, "name")
	keys := []string{"aa", "bb", "aa", "cc"}
	f := form{name: "name", end: 4, producers: []who{{"pp", 3, 3}}}
	for i, k := range keys {
		_, b := lent("vv") // no literal's bytes, which nobody may write into
		wantPublish(t, x, "pp", i, k, string(b), i, api.ROK)
		f.records = append(f.records, rec(i, "pp", i, k, "vv"))
	}
	check := func(x *topic.Topic, f form) {
		t.Helper()
		for _, most := range []int{1, 2, 4, 9} {
			spoil(x.Read(0, most))
			spoil(x.Read(2, most))
		}
		spoilText(x.Name())
		spoilText(x.Dump())
		wantForm(t, x, f)
	}
	check(x, f)
	y := loaded(t, form{name: f.name, end: f.end, many: 1, producers: f.producers, records: f.records})
	check(y, f)
	told := y.Read(0, 9)
	wantCompact(t, y, 4)
	wantPublish(t, y, "pp", 4, "dd", "ww", 4, api.ROK)
	wantTrim(t, y, 3, api.ROK)
	wantPublish(t, y, "pp", 5, "dd", "ww", 5, api.ROK)
	if !slices.Equal(told, f.records) {
		t.Errorf("%v", told)
	}
	check(y, form{name: "name", low: 3, end: 6, producers: []who{{"pp", 5, 5}}, records: []api.Record{f.records[3], rec(4, "pp", 4, "dd", "ww"), rec(5, "pp", 5, "dd", "ww")}})
	check(x, f)
}

// P3: two lists that were told before and behind a publish share no room.
func TestListsShareNoRoom(t *testing.T) {
	x := made(t, "t")
	var lists [][]api.Record
	for i := range 40 {
		lists = append(lists, x.Read(0, 99), x.Read(i/2, 99))
		wantPublish(t, x, "p", i, "", "v", i, api.ROK)
	}
	for i, l := range lists {
		for j := range l[:cap(l)] {
			l[:cap(l)][j].Offset = -1 - i
		}
	}
	for i, l := range lists {
		for _, r := range l[:cap(l)] {
			if r.Offset != -1-i {
				t.Fatalf("the list %d: %v", i, r)
			}
		}
	}
	wantRead(t, x, 38, 9, rec(38, "p", 38, "", "v"), rec(39, "p", 39, "", "v"))
}

// P2, P4: what is asked changes nothing, however often.
func TestAskingChangesNothing(t *testing.T) {
	x, l := five(t)
	wantTrim(t, x, 1, api.ROK)
	f := form{name: "t", low: 1, end: 5, producers: []who{{"p", 14, 4}}, records: l[1:]}
	for range 20 {
		wantForm(t, x, f)
		wantRead(t, x, 4, 1, l[4])
		wantPublish(t, x, "p", 14, "", "", 4, api.ROK)
		wantPublish(t, x, "p", 13, "", "", 0, api.ROld)
		wantTrim(t, x, 6, api.RArg)
		wantTrim(t, x, 0, api.ROK)
		wantCompact(t, x, 9)
	}
}

// P3, P4: two topics share nothing.
func TestTwoShareNothing(t *testing.T) {
	a, b := made(t, "t"), made(t, "t")
	wantPublish(t, a, "p", 1, "k", "v", 0, api.ROK)
	wantForm(t, b, form{name: "t"})
	wantPublish(t, b, "q", 1, "k", "v", 0, api.ROK)
	wantPublish(t, b, "p", 0, "k", "v", 1, api.ROK)
	wantTrim(t, b, 2, api.ROK)
	wantForm(t, a, form{name: "t", end: 1, producers: []who{{"p", 1, 0}}, records: []api.Record{rec(0, "p", 1, "k", "v")}})
	wantForm(t, b, form{name: "t", low: 2, end: 2, producers: []who{{"p", 0, 1}, {"q", 1, 0}}})
	wantForm(t, made(t, "t"), form{name: "t"})
}

// P4: the same script, the same answers, whatever others do beside it, and whatever the order in which a map is gone through.
func TestManyBesideEachOther(t *testing.T) {
	one := bothOf(t, "t")
	next := walk(7)
	for range 120 {
		someStep(t, next, one)
	}
	want := one.x.Dump()
	var workers sync.WaitGroup
	for range 8 {
		workers.Go(func() {
			for range 5 {
				x, e := topic.Load(want)
				if e != api.OK || x.Dump() != want {
					t.Errorf("Load: %d", e)
					return
				}
				y, e := topic.New("t")
				if n, code := y.Publish("p", 1, "k", "v"); e != api.OK || n != 0 || code != api.ROK {
					t.Errorf("New: %d, %d, %d", e, n, code)
				}
				for i := range 50 {
					x.Publish([]string{"w0", "w1", "w2", "w3"}[i%4], i, "k", "v")
				}
				x.Compact(x.End())
				if l := x.Read(x.End()-3, 9); len(l) != 1 || l[0].Producer != "w1" {
					t.Errorf("%v", l)
				}
			}
		})
	}
	workers.Wait()
}

// P1: very many records and producers; each call ends soon.
func TestVeryMany(t *testing.T) {
	x := made(t, "t")
	const many = 100000
	for i := range many {
		wantPublish(t, x, "p"+string(wordBytes[i%36])+string(wordBytes[i/36%36])+string(wordBytes[i/36/36%36]), i, "", "v", i, api.ROK)
	}
	for i := range many {
		if l := x.Read(i, 1); len(l) != 1 || l[0].Offset != i {
			t.Fatal(l)
		}
		if x.Trim(i) != api.ROK || x.Low() != i || x.End() != many {
			t.Fatal(i)
		}
	}
	wantRead(t, x, 0, 9, x.Read(many-1, 1)...)
	if x.Dump() != "" {
		t.Error("a Dump of very many producers")
	}
}

// P1, P15.3, P15.4: bytes of all kinds at Load, against a plain reader; what is read goes on.
func FuzzLoad(f *testing.F) {
	for _, x := range append(right(), base()) {
		f.Add(x.bytes())
	}
	for _, w := range wrongCounts() {
		f.Add(w.bytes())
	}
	f.Add("")
	f.Fuzz(func(t *testing.T, s string) {
		holdBytes(t, s)
		f, ok := plainLoad(s)
		if !ok {
			return
		}
		b := bothLoaded(t, f)
		for _, p := range append(f.producers, who{name: "new"}) {
			b.publish(t, p.name, p.seq, "k", "v")
			b.publish(t, p.name, p.seq+1, "k", "v")
		}
		b.compact(t, b.p.end-1)
		b.hold(t)
		b.trim(t, (b.p.low+b.p.end)/2)
		b.hold(t)
		b.reload(t)
	})
}

// P1, P15.1 to P15.4: scripts of all kinds against a plain topic.
func FuzzScript(f *testing.F) {
	f.Add("t", uint32(1), 50)
	f.Add("", uint32(2), 1)
	f.Add("abcdefghijklmnopqrst0", uint32(3), 1)
	f.Fuzz(func(t *testing.T, name string, seed uint32, many int) {
		if x, e := topic.New(name); !plainWord(name) {
			if x != nil || e != api.ErrName {
				t.Errorf("New(%q): %v, %d", name, x, e)
			}
			return
		}
		b := bothOf(t, name)
		next := walk(seed)
		for range min(max(many, 0), 600) {
			someStep(t, next, b)
		}
		b.hold(t)
	})
}

// P1, P15.1, P15.2: numbers and texts of all kinds at each call.
func FuzzCalls(f *testing.F) {
	f.Add("p", 1, "k", "v", 0, 1, 0, 9)
	f.Add("q", great, size("k", 101), size("v", 1001), -1, -1, math.MaxInt, math.MinInt)
	f.Add("Q", -1, "", "", math.MaxInt, math.MinInt, 3, 2)
	f.Fuzz(func(t *testing.T, producer string, seq int, key, value string, offset, most, low, upto int) {
		b := bothOf(t, "t")
		for i, k := range []string{"a", "b", "a", "", "b"} {
			b.publish(t, []string{"p", "q"}[i%2], 2*i, k, "v")
		}
		b.publish(t, producer, seq, key, value)
		b.publish(t, producer, seq, key, value)
		b.hold(t)
		b.read(t, offset, most)
		b.compact(t, upto)
		b.hold(t)
		b.trim(t, low)
		b.read(t, offset, most)
		b.hold(t)
		b.reload(t)
		b.hold(t)
	})
}
