package subs_test

import (
	"math"
	"slices"
	"sync"
	"testing"
	"unsafe"

	"carillon/api"
	"carillon/subs"
	"carillon/topic"
)

// eachScript does each script of up to so many steps, on a topic and a subscription that are made anew each time.
func eachScript(t *testing.T, length int, begin func() *both, steps []func(b *both)) {
	t.Helper()
	for length := range length + 1 {
		many := 1
		for range length {
			many *= len(steps)
		}
		for script := range many {
			b := begin()
			for range length {
				steps[script%len(steps)](b)
				script /= len(steps)
			}
			b.hold(t)
		}
	}
}

// P16.1, P16.2: each script of up to five steps on a topic of few records, against a plain one.
func TestEachShortScript(t *testing.T) {
	begin := func() *both { return bothOf(t, plain{name: "t", end: 5, records: recs(0, 5)}, st(1, 1)) }
	eachScript(t, 5, begin, []func(b *both){
		func(b *both) { b.poll(t, 1) },
		func(b *both) { b.poll(t, 50) },
		func(b *both) { b.ack(t, b.s.Next-1) },
		func(b *both) { b.ack(t, b.s.Cursor) },
		func(b *both) { b.attach(t) },
		func(b *both) { b.seek(t, b.p.end-2) },
		func(b *both) { b.trim(b.p.low + 2) },
		func(b *both) { b.compact(b.p.end) },
		func(b *both) { b.publish(t) },
	})
}

// P16.1, P16.2: each script of up to four steps on a topic of more records than a subscription has credit for.
func TestEachShortScriptOfManyRecords(t *testing.T) {
	begin := func() *both { return bothOf(t, plain{name: "t", end: 180, records: recs(0, 180)}, st(3, 53)) }
	eachScript(t, 4, begin, []func(b *both){
		func(b *both) { b.poll(t, 50) },
		func(b *both) { b.poll(t, 1) },
		func(b *both) { b.ack(t, b.s.Cursor) },
		func(b *both) { b.ack(t, b.s.Next-1) },
		func(b *both) { b.attach(t) },
		func(b *both) { b.trim(b.p.low + 70) },
		func(b *both) { b.compact(100) },
		func(b *both) { b.seek(t, 0) },
	})
}

// near is a number about another one.
func near(next func(int) int, n int) int { return n + next(7) - 3 }

// someStep does one thing of all that can be done.
func someStep(t *testing.T, next func(int) int, b *both) {
	t.Helper()
	marks := []int{0, b.p.low, b.p.end, (b.p.low + b.p.end) / 2, b.s.Cursor, b.s.Next, b.s.Cursor + 100, b.p.low + 100}
	mark := func() int { return near(next, marks[next(len(marks))]) }
	switch next(16) {
	case 0:
		b.trim(mark())
	case 1:
		b.compact(mark())
	case 2:
		b.seek(t, mark())
	case 3:
		b.attach(t)
	case 4, 5:
		b.ack(t, mark())
	case 6:
		b.ack(t, b.s.Next-1)
	case 7:
		b.renew(t, []string{"s", "r", "", "S"}[next(4)], mark())
	case 8, 9:
		for range next(60) {
			b.publish(t)
		}
	case 10:
		b.poll(t, near(next, []int{0, 50}[next(2)]))
	default:
		b.poll(t, 1+next(50))
	}
}

// P16.1, P16.2: long scripts, with publishes, trims and compacts between, against plain ones.
func TestLongScripts(t *testing.T) {
	told := 0
	for seed := range uint32(200) {
		next := walk(seed)
		b := bothOf(t, plain{name: "t"}, st(0, 0))
		for range 300 {
			someStep(t, next, b)
			told = max(told, b.s.Next)
		}
		b.hold(t)
	}
	if told < 500 {
		t.Errorf("only up to %d", told)
	}
}

// follower keeps, of what a subscription was told, what P16.3 speaks of.
type follower struct {
	last  int // the last offset that was told since a Seek or an Attach
	least int // all below is acknowledged since the last Seek
}

func (f *follower) told(t *testing.T, l []api.Record) {
	t.Helper()
	for _, r := range l {
		if r.Offset <= f.last {
			t.Fatalf("%d is told behind %d", r.Offset, f.last)
		}
		if r.Offset < f.least {
			t.Fatalf("%d is told, and was acknowledged: all below %d", r.Offset, f.least)
		}
		f.last = r.Offset
	}
}

// P16.3: between two Seeks the offsets that Polls tell rise, but where an Attach is between; behind an Attach they begin at the Cursor or behind it; what is acknowledged is not told again without a Seek.
func TestWhatIsToldRises(t *testing.T) {
	again, all := 0, 0
	for seed := range uint32(150) {
		next := walk(3000 + seed)
		x := made(t, 0)
		s, _ := subs.New("s", x, 0)
		f := follower{last: -1}
		for range 400 {
			switch next(12) {
			case 0:
				x.Trim(x.Low() + next(40))
			case 1:
				x.Compact(next(x.End() + 1))
			case 2:
				if now, code := subs.Seek(s, x, next(x.End()+1)); code == api.ROK && next(4) == 0 {
					s, f = now, follower{last: -1}
				}
			case 3:
				again += s.Next - s.Cursor
				s = subs.Attach(s)
				f.last = s.Cursor - 1
			case 4, 5:
				offset := next(s.Next + 2)
				now, code := subs.Ack(s, offset)
				if code == api.ROK {
					f.least = max(f.least, offset+1)
				}
				s = now
			case 6, 7:
				for range next(30) {
					publish(t, x, x.End())
				}
			default:
				now, l, _ := subs.Poll(s, x, next(60))
				f.told(t, l)
				s, all = now, all+len(l)
			}
			if !subs.Right(s) || s.Next > x.End() {
				t.Fatalf("%v is not right, or beyond %d", s, x.End())
			}
		}
	}
	if again < 1000 || all < 10000 {
		t.Errorf("only %d told again, %d told", again, all)
	}
}

// P16.3: whoever polls, acknowledges all and polls again is told each record of the topic once, in its order, however many it asks for.
func TestEachRecordOnce(t *testing.T) {
	x := made(t, 333)
	for many := 1; many <= api.MaxPoll; many++ {
		s, _ := subs.New("s", x, 0)
		var all []api.Record
		for range 400 {
			now, l, code := subs.Poll(s, x, many)
			if code != api.ROK {
				t.Fatal(code)
			}
			all = append(all, l...)
			if s = now; s.Next > s.Cursor {
				s, _ = subs.Ack(s, s.Next-1)
			}
		}
		if !slices.Equal(all, recs(0, 333)) || s != st(333, 333) {
			t.Errorf("%d at a time: %d records, %v", many, len(all), s)
		}
	}
}

// P16.3: whoever begins anew from the Cursor each time is told what is not acknowledged, from the Cursor on.
func TestAttachTellsAgain(t *testing.T) {
	x := made(t, 60)
	s, _ := subs.New("s", x, 0)
	for n := range 60 {
		s = wantPoll(t, s, x, 3, min(n+3, 60), recs(n, min(n+3, 60))...)
		s = wantAck(t, s, n, n+1)
		s = wantAttach(t, s, st(n+1, n+1))
	}
	wantPoll(t, s, x, 3, 60)
}

// lent tells a text over bytes that may be written into later.
func lent(s string) (string, []byte) {
	b := []byte(s)
	return unsafe.String(unsafe.SliceData(b), len(b)), b
}

// each does each call that tells a subscription with one, so that each way to an answer is gone: with ROK and with RArg.
func each(s subs.Sub, x, other *topic.Topic) []subs.Sub {
	created, _ := subs.New(s.Name, x, 1)
	polled, _, _ := subs.Poll(s, x, 2)
	none, _, _ := subs.Poll(s, other, 2)
	many, _, _ := subs.Poll(s, x, 0)
	acked, _ := subs.Ack(s, s.Next-1)
	early, _ := subs.Ack(s, s.Next)
	sought, _ := subs.Seek(s, x, 2)
	far, _ := subs.Seek(s, x, 1000)
	return []subs.Sub{created, subs.Attach(s), polled, none, many, acked, early, sought, far}
}

// P3: nothing that is handed in is kept, nor is it written into: what was told stays, whatever comes of the texts that were handed in.
func TestNothingHandedInIsKept(t *testing.T) {
	x, other := made(t, 9), loaded(t, plain{name: "other"})
	for _, names := range [][2]string{{"name", "t"}, {"Name", "t"}, {"name", "T"}} {
		name, room := lent(names[0])
		of, roomOf := lent(names[1])
		was := stateOf(x)
		got := each(sub(name, of, 1, 4), x, other)
		want := each(sub(names[0], names[1], 1, 4), x, other)
		if string(room) != names[0] || string(roomOf) != names[1] {
			t.Errorf("written into: %q, %q", room, roomOf)
		}
		room[0], roomOf[0] = '!', '!'
		if !slices.Equal(got, want) {
			t.Errorf("%v; want %v", got, want)
		}
		same(t, "each", x, was)
	}
}

// spoilText writes over the bytes of a text that was told, as if they were its holder's own.
func spoilText(s string) {
	b := unsafe.Slice(unsafe.StringData(s), len(s))
	for i := range b {
		b[i] = '!'
	}
}

// spoil writes over a list, its spare room too, and over the bytes of its texts.
func spoil(l []api.Record) {
	l = l[:cap(l)]
	for i := range l {
		for _, s := range []string{l[i].Producer, l[i].Key, l[i].Value} {
			spoilText(s)
		}
		l[i] = api.Record{Offset: -1}
	}
}

// P3: what is told is new memory: the names of a subscription are no part of the one that was handed in, nor of the topic, nor of another answer.
func TestNamesAreNewMemory(t *testing.T) {
	x, other := made(t, 9), loaded(t, plain{name: "other"})
	was := stateOf(x)
	for _, s := range []subs.Sub{sub("name", "t", 1, 4), sub("Name", "t", 1, 4), sub("name", "T", 1, 4)} {
		name, _ := lent(s.Name)
		of, _ := lent(s.Topic)
		want := each(s, x, other)
		told := each(sub(name, of, 1, 4), x, other)
		for i, a := range told {
			spoilText(a.Name)
			spoilText(a.Topic)
			if !slices.Equal(told[i+1:], want[i+1:]) || name != s.Name || of != s.Topic {
				t.Errorf("behind the answer %d: %v; want %v; %q, %q", i, told[i+1:], want[i+1:], name, of)
			}
		}
	}
	same(t, "each", x, was)
}

// P3: what Poll tells is no part of the topic, nor of what another Poll tells, spare room and texts too.
func TestRecordsAreNewMemory(t *testing.T) {
	x := made(t, 180)
	was := stateOf(x)
	var lists [][]api.Record
	for _, s := range []subs.Sub{st(0, 0), st(0, 70), st(0, 95), st(0, 100), st(100, 100), st(170, 170), st(180, 180)} {
		for _, many := range []int{1, 2, 49, 50} {
			_, l, code := subs.Poll(s, x, many)
			if code != api.ROK {
				t.Fatal(code)
			}
			_, l2, _ := subs.Poll(s, x, many)
			spoil(l)
			want := recs(s.Next, min(s.Next+many, s.Cursor+100, 180))
			if !slices.Equal(l2, want) {
				t.Errorf("Poll(%v, %d): %v; want %v", s, many, l2, want)
			}
			lists = append(lists, l, l2)
		}
	}
	same(t, "Poll", x, was)
	for i, l := range lists {
		for j := range l[:cap(l)] {
			l[:cap(l)][j].Offset = -1 - i
		}
	}
	for i, l := range lists {
		for _, r := range l[:cap(l)] {
			if r.Offset != -1-i {
				t.Fatalf("the list %d: %v", i, r)
			}
		}
	}
}

// P3: what was told stays, whatever is done with the topic then.
func TestWhatWasToldStays(t *testing.T) {
	x := made(t, 20)
	s := st(0, 0)
	now, l, _ := subs.Poll(s, x, 10)
	x.Compact(20)
	x.Trim(15)
	publish(t, x, 20)
	if !slices.Equal(l, recs(0, 10)) || now != st(0, 10) || s != st(0, 0) {
		t.Errorf("%v, %v, %v", l, now, s)
	}
}

// P2, P4: a subscription is a value: whatever is done with one, it tells the same again, however often, and two of one name and topic know nothing of each other.
func TestAskingChangesNothing(t *testing.T) {
	x := made(t, 20)
	s := st(2, 5)
	for range 20 {
		wantPoll(t, s, x, 3, 8, recs(5, 8)...)
		wantAck(t, s, 4, 5)
		wantAttach(t, s, st(2, 2))
		wantSeek(t, s, x, 0)
		wantNew(t, x, "s", 7, st(7, 7), api.ROK)
		noPoll(t, s, x, 51)
		noAck(t, s, 5)
		noSeek(t, s, x, 21)
		wantNew(t, x, "s", 21, subs.Sub{}, api.RArg)
		if !subs.Right(s) || s != st(2, 5) {
			t.Errorf("%v", s)
		}
	}
}

// P4: the same script, the same answers, whatever others do beside it.
func TestManyBesideEachOther(t *testing.T) {
	var workers sync.WaitGroup
	for seed := range uint32(8) {
		workers.Go(func() {
			x, e := topic.New("t")
			if e != api.OK {
				t.Errorf("New: %d", e)
				return
			}
			next := walk(seed)
			for n := range 500 {
				x.Publish("p", n, "", "")
			}
			s, _ := subs.New("s", x, 0)
			for s.Next < 500 {
				now, l, code := subs.Poll(s, x, 1+next(50))
				if code != api.ROK || len(l) == 0 || l[0].Offset != s.Next || now.Next != s.Next+len(l) {
					t.Errorf("%v: %v, %d records, %d", s, now, len(l), code)
					return
				}
				s, _ = subs.Ack(now, now.Next-1)
			}
		})
	}
	workers.Wait()
}

// P1: names of very many bytes, and a topic of very many records; each call ends soon.
func TestVeryMany(t *testing.T) {
	x := made(t, 50000)
	s, _ := subs.New("s", x, 0)
	for range 50000 {
		s, _, _ = subs.Poll(s, x, 1)
		s, _ = subs.Ack(s, s.Next-1)
	}
	if s != st(50000, 50000) {
		t.Errorf("%v", s)
	}
	long := sub(size("n", 1<<24), size("t", 1<<24), 0, 0)
	if subs.Right(long) || subs.Attach(long) != long {
		t.Error("names of very many bytes")
	}
	if now, code := subs.Ack(long, 0); now != long || code != api.RArg {
		t.Error("names of very many bytes")
	}
	if now, l, code := subs.Poll(long, x, 1); now != long || len(l) != 0 || code != api.RArg {
		t.Error("names of very many bytes")
	}
}

// P1, P16.1, P16.2: texts and numbers of all kinds at each call, against plain ones.
func FuzzCalls(f *testing.F) {
	f.Add("s", "t", 2, 5, 0, 180, 9, 3, 1)
	f.Add("s", "t", 0, 100, 5, 180, 180, 50, 99)
	f.Add("S", "", -1, great+1, 200, 180, 0, 51, -1)
	f.Add("s", "t", great, great, 0, 0, 0, 0, great)
	f.Add("s", "t", math.MinInt, math.MaxInt, math.MaxInt, math.MaxInt, math.MinInt, math.MinInt, math.MaxInt)
	f.Fuzz(func(t *testing.T, name, of string, cursor, next, low, end, upto, many, offset int) {
		end = min(max(end, 0), 180)
		p := plain{name: "t", end: end, records: recs(0, end)}
		b := bothOf(t, p, sub(name, of, cursor, next))
		b.trim(low)
		b.compact(upto)
		if subs.Right(b.s) != plainRight(b.s) {
			t.Errorf("Right(%v): %v", b.s, subs.Right(b.s))
		}
		b.poll(t, many)
		b.ack(t, offset)
		b.poll(t, many)
		b.attach(t)
		b.poll(t, many)
		b.seek(t, offset)
		b.poll(t, many)
		b.renew(t, name, offset)
		b.poll(t, many)
		b.hold(t)
	})
}

// P1, P16.1, P16.2: scripts of all kinds, against plain ones.
func FuzzScript(f *testing.F) {
	f.Add(uint32(1), 100)
	f.Add(uint32(2), 600)
	f.Fuzz(func(t *testing.T, seed uint32, many int) {
		next := walk(seed)
		b := bothOf(t, plain{name: "t"}, st(0, 0))
		for range min(max(many, 0), 600) {
			someStep(t, next, b)
		}
		b.hold(t)
	})
}
