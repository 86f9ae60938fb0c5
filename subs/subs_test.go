package subs_test

import (
	"math"
	"strings"
	"testing"

	"carillon/api"
	"carillon/subs"
	"carillon/topic"
)

// P16.1, P16.2: the chapter's examples, line by line.
func TestExamples(t *testing.T) {
	x := made(t, 10)
	s, code := subs.New("s", x, 2)
	if s != st(2, 2) || code != api.ROK {
		t.Errorf("New: %v, %d", s, code)
	}
	s = wantPoll(t, s, x, 3, 5, recs(2, 5)...)
	s = wantPoll(t, s, x, 1, 6, rec(5))
	s = wantAck(t, s, 3, 4)
	s = wantAttach(t, s, st(4, 4))
	s = wantPoll(t, s, x, 1, 5, rec(4))
	noAck(t, s, 9)
	noSeek(t, s, x, 11)
}

// words are words at the edges of their length and of their letters.
func words() []string {
	l := []string{size("a", 20), size("z", 20), size("0", 20), size("9", 20), "abcdefghijklmnopqrst", "uvwxyz0123456789", "007", "news2"}
	return append(l, strings.Split(wordBytes, "")...)
}

// noWords are texts that are no words: by their length, and by each byte that is no letter, alone and behind one.
func noWords() []string {
	l := []string{"", size("a", 21), size("a", 22), size("a", 256+1), size("b", 100000), "é", "日", "A", "News", "a-b", "a_b", "a.b", "a b", "a\x00", "\x00a"}
	for b := range 256 {
		if x := string([]byte{byte(b)}); !strings.Contains(wordBytes, x) {
			l = append(l, x, "a"+x, x+"a")
		}
	}
	return l
}

// wrongSubs are subscriptions that are not right, each by one thing alone, but that are of the topic t where they have its name.
func wrongSubs() []subs.Sub {
	l := []subs.Sub{{}, st(-1, 0), st(-1, 2), st(-1, -1), st(1, 0), st(3, 2), st(math.MinInt, 2), st(math.MaxInt, 2), st(0, -1), st(0, math.MinInt),
		st(0, great+1), st(great+1, great+1), st(2, great+1), st(0, math.MaxInt), st(math.MaxInt, math.MaxInt), st(math.MinInt, math.MaxInt), st(great, 0), st(great, great-1)}
	for _, w := range noWords() {
		l = append(l, sub(w, "t", 1, 3), sub("s", w, 1, 3))
	}
	return l
}

// P16.1: a subscription is right, if its names are words, and 0 <= Cursor <= Next <= 2^53 - 1.
func TestRight(t *testing.T) {
	l := []subs.Sub{st(0, 0), st(0, 1), st(1, 1), st(0, great), st(great, great), st(great-1, great), st(7, 300), st(1<<31, 1<<32)}
	for _, w := range words() {
		l = append(l, sub(w, "t", 1, 3), sub("s", w, 1, 3), sub(w, w, 0, 0))
	}
	for _, s := range l {
		if !subs.Right(s) {
			t.Errorf("Right(%v): false", s)
		}
	}
	for _, s := range wrongSubs() {
		if subs.Right(s) {
			t.Errorf("Right(%v): true", s)
		}
	}
}

// P16.1: each Cursor and Next near to the edges.
func TestRightByEachNumber(t *testing.T) {
	numbers := []int{math.MinInt, -great, -2, -1, 0, 1, 2, 50, 100, 1 << 32, great - 1, great, great + 1, great + 2, math.MaxInt}
	for _, cursor := range numbers {
		for _, next := range numbers {
			if s := st(cursor, next); subs.Right(s) != plainRight(s) {
				t.Errorf("Right(%v): %v", s, subs.Right(s))
			}
		}
	}
}

// P16.1: first is told as Cursor and Next; below 0 it is the End; from the low mark on, below it, and in a gap all the same.
func TestNew(t *testing.T) {
	for _, p := range []plain{
		{name: "t"},
		{name: "t", end: 1, records: recs(0, 1)},
		{name: "t", end: 10, records: recs(0, 10)},
		{name: "t", low: 4, end: 10, records: recs(4, 10)},
		{name: "t", low: 10, end: 10},
		{name: "t", low: 2, end: 10, records: these(5, 7)},
		{name: size("n", 20), end: 300, records: these(299)},
		{name: "0", low: great - 1, end: great, records: these(great - 1)},
		{name: "t", end: great},
	} {
		x := loaded(t, p)
		for first := range min(p.end, 400) + 1 {
			wantNew(t, x, "s", first, sub("s", p.name, first, first), api.ROK)
		}
		wantNew(t, x, "s", p.low, sub("s", p.name, p.low, p.low), api.ROK)
		for _, first := range []int{p.end, -1, -2, -100, math.MinInt} {
			wantNew(t, x, "s", first, sub("s", p.name, p.end, p.end), api.ROK)
		}
		for _, first := range []int{p.end + 1, p.end + 2, great + 1, math.MaxInt} {
			wantNew(t, x, "s", first, subs.Sub{}, api.RArg)
		}
	}
}

// P16.1: names of 1 and of MaxWord letters, and all that are no words, wherever first is.
func TestNewByItsName(t *testing.T) {
	x := made(t, 3)
	for _, w := range words() {
		wantNew(t, x, w, 1, sub(w, "t", 1, 1), api.ROK)
		wantNew(t, x, w, -1, sub(w, "t", 3, 3), api.ROK)
		wantNew(t, x, w, 4, subs.Sub{}, api.RArg)
	}
	for _, w := range noWords() {
		for _, first := range []int{-1, 0, 3, 4} {
			wantNew(t, x, w, first, subs.Sub{}, api.RArg)
		}
	}
}

// P16.1: a subscription may have its topic's name.
func TestNewOfTheTopicsName(t *testing.T) {
	wantNew(t, made(t, 3), "t", 0, sub("t", "t", 0, 0), api.ROK)
}

// P16.1: Attach asks nothing: Next is the Cursor, of whatever subscription.
func TestAttach(t *testing.T) {
	l := []subs.Sub{st(0, 0), st(0, 9), st(9, 9), st(4, 5), st(0, great), st(great, great), sub(size("n", 20), size("m", 20), 3, 60)}
	for _, s := range append(l, wrongSubs()...) {
		once := wantAttach(t, s, sub(s.Name, s.Topic, s.Cursor, s.Cursor))
		wantAttach(t, once, once)
	}
}

// P16.2: the first many from Next on; Next is one more than the last one's Offset.
func TestPoll(t *testing.T) {
	x := made(t, 10)
	for next := range 11 {
		for many := 1; many <= api.MaxPoll; many++ {
			end := min(next+many, 10)
			wantPoll(t, st(0, next), x, many, end, recs(next, end)...)
			wantPoll(t, st(next, next), x, many, end, recs(next, end)...)
		}
	}
}

// P16.2: just as many records as many, one more, one less.
func TestPollOfAsManyAsThereAre(t *testing.T) {
	for _, many := range []int{1, 2, 3, 49, 50} {
		for _, from := range []int{0, 1, 20} {
			wantPoll(t, st(from, from), made(t, from+many-1), many, from+many-1, recs(from, from+many-1)...)
			wantPoll(t, st(from, from), made(t, from+many), many, from+many, recs(from, from+many)...)
			wantPoll(t, st(from, from), made(t, from+many+1), many, from+many, recs(from, from+many)...)
		}
	}
}

// P16.2: at End there is nothing, and Next is as it was, till there is a record more.
func TestPollAtTheEnd(t *testing.T) {
	for _, end := range []int{0, 1, 10} {
		x := made(t, end)
		for _, cursor := range []int{0, end / 2, end} {
			s := wantPoll(t, st(cursor, end), x, 1, end)
			s = wantPoll(t, s, x, api.MaxPoll, end)
			if s != st(cursor, end) {
				t.Errorf("%v", s)
			}
		}
		publish(t, x, end)
		wantPoll(t, st(end, end), x, 1, end+1, rec(end))
	}
}

// P16.2: gaps are stepped over: Next is one more than the Offset of the last that is told, and is as it was where none is.
func TestPollOverGaps(t *testing.T) {
	x := loaded(t, plain{name: "t", low: 2, end: 20, records: these(3, 4, 9, 15)})
	wantPoll(t, st(0, 0), x, 1, 4, rec(3))
	wantPoll(t, st(0, 2), x, 2, 5, these(3, 4)...)
	wantPoll(t, st(0, 4), x, 2, 10, these(4, 9)...)
	wantPoll(t, st(5, 5), x, 1, 10, rec(9))
	wantPoll(t, st(5, 10), x, 9, 16, rec(15))
	for next := 16; next <= 20; next++ {
		wantPoll(t, st(5, next), x, 9, next)
	}
	noPoll(t, st(5, 21), x, 9)
	x = loaded(t, plain{name: "t", low: 20, end: 20})
	for next := range 21 {
		wantPoll(t, st(0, next), x, 9, next)
	}
}

// P16.2: without an ack MaxCredit records are told from the Cursor on, and no more; each that is acknowledged lets one more be told.
func TestCreditFromTheCursor(t *testing.T) {
	x := made(t, 300)
	for _, cursor := range []int{0, 1, 7, 150} {
		s := wantPoll(t, st(cursor, cursor), x, 50, cursor+50, recs(cursor, cursor+50)...)
		s = wantPoll(t, s, x, 49, cursor+99, recs(cursor+50, cursor+99)...)
		last := wantPoll(t, s, x, 1, cursor+100, rec(cursor+99))
		wantPoll(t, s, x, 2, cursor+100, rec(cursor+99))
		wantPoll(t, s, x, 50, cursor+100, rec(cursor+99))
		for _, many := range []int{1, 2, 50} {
			wantPoll(t, last, x, many, cursor+100)
		}
		s = wantAck(t, last, cursor, cursor+1)
		wantPoll(t, s, x, 1, cursor+101, rec(cursor+100))
		s = wantPoll(t, s, x, 50, cursor+101, rec(cursor+100))
		s = wantAck(t, s, cursor+29, cursor+30)
		s = wantPoll(t, s, x, 50, cursor+130, recs(cursor+101, cursor+130)...)
		wantPoll(t, s, x, 50, cursor+130)
	}
	wantPoll(t, st(200, 260), x, 50, 300, recs(260, 300)...)
	wantPoll(t, st(199, 260), x, 50, 299, recs(260, 299)...)
	wantPoll(t, st(0, 100), x, 50, 100)
	wantPoll(t, st(0, 101), x, 50, 101)
	wantPoll(t, st(0, 250), x, 50, 250)
	wantPoll(t, st(0, 99), x, 50, 100, rec(99))
}

// P16.2: the credit counts offsets, not records: the last record just below the Cursor and MaxCredit is told, one at it is not, whatever gaps are ahead of them.
func TestCreditCountsOffsets(t *testing.T) {
	for _, from := range []int{0, 1, 5, 1000, great - 200} {
		p := plain{name: "t", end: from + 150, records: these(from, from+50, from+99, from+100, from+101)}
		x := loaded(t, p)
		wantPoll(t, st(from, from), x, 50, from+100, these(from, from+50, from+99)...)
		wantPoll(t, st(from, from+60), x, 50, from+100, rec(from+99))
		wantPoll(t, st(from, from+100), x, 50, from+100)
		wantPoll(t, st(from+1, from+1), x, 50, from+101, these(from+50, from+99, from+100)...)
		wantPoll(t, st(from+1, from+1), x, 2, from+100, these(from+50, from+99)...)
		wantPoll(t, st(from+2, from+60), x, 50, from+102, these(from+99, from+100, from+101)...)
		p.records = these(from+100, from+101)
		x = loaded(t, p)
		wantPoll(t, st(from, from), x, 50, from)
		wantPoll(t, st(from, from+3), x, 50, from+3)
		wantPoll(t, st(from+1, from+3), x, 50, from+101, rec(from+100))
	}
}

// P16.2: a low mark below the Cursor changes nothing, at it neither; above it the credit counts from it on, also when it is above Next.
func TestCreditFromTheLowMark(t *testing.T) {
	for _, cursor := range []int{0, 3, 40, 90} {
		for _, next := range []int{cursor, cursor + 1, cursor + 60} {
			for _, low := range []int{0, cursor - 1, cursor, cursor + 1, next - 1, next, next + 1, next + 100} {
				if low < 0 {
					continue
				}
				x := made(t, 400)
				x.Trim(low)
				from, end := max(next, low), max(cursor, low)+api.MaxCredit
				now := min(end, from+50)
				wantPoll(t, st(cursor, next), x, 50, now, recs(from, now)...)
				wantPoll(t, st(cursor, end-1), x, 50, end, rec(end-1))
				wantPoll(t, st(cursor, end), x, 50, end)
			}
		}
	}
}

// P16.2: what was trimmed since is not told, and what is behind the low mark is.
func TestPollBehindATrim(t *testing.T) {
	x := made(t, 250)
	s := wantPoll(t, st(0, 0), x, 50, 50, recs(0, 50)...)
	x.Trim(20)
	s = wantPoll(t, s, x, 50, 100, recs(50, 100)...)
	s = wantPoll(t, s, x, 50, 120, recs(100, 120)...)
	s = wantPoll(t, s, x, 50, 120)
	x.Trim(200)
	s = wantPoll(t, s, x, 1, 201, rec(200))
	s = wantPoll(t, s, x, 50, 250, recs(201, 250)...)
	x.Trim(250)
	s = wantPoll(t, s, x, 50, 250)
	publish(t, x, 250)
	wantPoll(t, s, x, 50, 251, rec(250))
	s = wantAttach(t, s, st(0, 0))
	wantPoll(t, s, x, 50, 251, rec(250))
}

// P16.2: an offset of 2^53 - 2, the last one that a Next of 2^53 - 1 is behind.
func TestPollAtTheGreatest(t *testing.T) {
	x := loaded(t, plain{name: "t", end: great, records: these(great-101, great-100, great-1)})
	wantPoll(t, st(0, 0), x, 50, 0)
	wantPoll(t, st(great-101, great-101), x, 50, great-99, these(great-101, great-100)...)
	wantPoll(t, st(great-100, great-100), x, 50, great, these(great-100, great-1)...)
	wantPoll(t, st(great, great), x, 50, great)
	wantPoll(t, st(0, great), x, 50, great)
	wantPoll(t, st(great-1, great-1), x, 1, great, rec(great-1))
	x = loaded(t, plain{name: "t", low: great - 1, end: great, records: these(great - 1)})
	wantPoll(t, st(0, 0), x, 50, great, rec(great-1))
}

// P16.1, P16.2: a topic whose End goes beyond 2^53 - 1, as one that was loaded may: what is told of it is as of any, but such a subscription is not right.
func TestBeyondTheGreatest(t *testing.T) {
	x := loaded(t, plain{name: "t", end: great})
	if offset, code := x.Publish("p", 1, "", ""); offset != great || code != api.ROK {
		t.Fatalf("Publish: %d, %d", offset, code)
	}
	wantNew(t, x, "s", great, st(great, great), api.ROK)
	wantNew(t, x, "s", -1, st(great+1, great+1), api.ROK)
	s := wantPoll(t, st(great, great), x, 1, great+1, api.Record{Offset: great, Producer: "p", Seq: 1})
	noPoll(t, s, x, 1)
	noAck(t, s, great)
	noSeek(t, s, x, 0)
	s = wantAttach(t, s, st(great, great))
	wantSeek(t, s, x, great+1)
}

// P16.2: many is 1 to MaxPoll.
func TestPollOfAWrongNumber(t *testing.T) {
	x := made(t, 60)
	for _, many := range []int{0, -1, -2, -50, math.MinInt, api.MaxPoll + 1, api.MaxPoll + 2, 100, 256 + 1, 1<<32 + 1, great, math.MaxInt} {
		for _, s := range []subs.Sub{st(0, 0), st(3, 9), st(60, 60)} {
			noPoll(t, s, x, many)
		}
	}
	wantPoll(t, st(0, 0), x, 50, 50, recs(0, 50)...)
}

// P16.2: a Next above End.
func TestPollAboveTheEnd(t *testing.T) {
	for _, end := range []int{0, 1, 60} {
		x := made(t, end)
		for _, next := range []int{end + 1, end + 2, end + 100, great} {
			for _, cursor := range []int{0, end, end + 1, next} {
				noPoll(t, st(cursor, next), x, 1)
				noPoll(t, st(cursor, next), x, 50)
			}
		}
	}
}

// otherNames are words that are not t, near to it and far from it.
func otherNames() []string { return []string{"s", "u", "tt", "t0", "st", "0", size("t", 20)} }

// P16.2: a Topic that is not the topic's name.
func TestOfAnotherTopic(t *testing.T) {
	x := made(t, 10)
	for _, name := range otherNames() {
		s := sub("t", name, 1, 3)
		noPoll(t, s, x, 1)
		noSeek(t, s, x, 5)
		noSeek(t, s, x, 0)
		wantAck(t, s, 2, 3)
		y := loaded(t, plain{name: name, end: 10, records: recs(0, 10)})
		wantPoll(t, s, y, 1, 4, rec(3))
		wantSeek(t, s, y, 5)
		noPoll(t, st(1, 3), y, 1)
		noSeek(t, st(1, 3), y, 5)
	}
}

// P16.2: of a subscription that is not right nothing is done, and it is told as it was.
func TestOfOneThatIsNotRight(t *testing.T) {
	small, big := made(t, 10), loaded(t, plain{name: "t", end: great, records: recs(0, 10)})
	for _, s := range wrongSubs() {
		for _, x := range []*topic.Topic{small, big} {
			noPoll(t, s, x, 1)
			noPoll(t, s, x, 50)
			noSeek(t, s, x, 0)
			noSeek(t, s, x, 3)
			noSeek(t, s, x, 10)
		}
		for _, offset := range []int{0, 1, 2, -1, math.MinInt, great, great - 1, math.MaxInt} {
			noAck(t, s, offset)
		}
	}
}

// P16.2: an ack below Next has the Cursor be one more, if that is more than it was; of one below the Cursor, and of 0, it is ROK, and nothing is changed.
func TestAck(t *testing.T) {
	for _, next := range []int{1, 2, 10, 100, 101, great} {
		for _, cursor := range []int{0, 1, next / 2, next - 1, next} {
			s := st(cursor, next)
			for _, offset := range []int{0, 1, cursor - 2, cursor - 1, cursor, cursor + 1, next / 2, next - 2, next - 1} {
				if offset < 0 || offset >= next {
					continue
				}
				now := cursor
				if offset >= cursor {
					now = offset + 1
				}
				wantAck(t, s, offset, now)
			}
		}
	}
	s := wantAck(t, st(0, 9), 8, 9)
	for offset := range 9 {
		s = wantAck(t, s, offset, 9)
	}
}

// P16.2: an ack below 0, of Next, and beyond.
func TestAckOfWhatWasNotTold(t *testing.T) {
	for _, next := range []int{0, 1, 2, 10, great - 1, great} {
		for _, cursor := range []int{0, next / 2, next} {
			for _, offset := range []int{-1, -2, -next - 1, math.MinInt, next, next + 1, next + 100, great, great + 1, math.MaxInt} {
				noAck(t, st(cursor, next), offset)
			}
		}
	}
}

// P16.2: Seek goes to 0, below the low mark, into gaps, and to End, ahead and back, whatever was acknowledged and wherever Next was.
func TestSeek(t *testing.T) {
	for _, p := range []plain{
		{name: "t"},
		{name: "t", end: 1, records: recs(0, 1)},
		{name: "t", end: 10, records: recs(0, 10)},
		{name: "t", low: 6, end: 10, records: recs(6, 10)},
		{name: "t", low: 10, end: 10},
		{name: "t", low: 1, end: 10, records: these(4)},
		{name: "t", low: great - 9, end: great},
	} {
		x := loaded(t, p)
		for _, s := range []subs.Sub{st(0, 0), st(0, 10), st(3, 5), st(10, 10), st(0, 99), st(99, 99), st(great, great)} {
			for _, offset := range []int{0, 1, 2, 5, 6, 7, 9, 10, p.low - 1, p.low, p.low + 1, p.end - 1, p.end} {
				if 0 <= offset && offset <= p.end {
					wantSeek(t, s, x, offset)
				}
			}
			for _, offset := range []int{-1, -2, math.MinInt, p.end + 1, p.end + 2, great + 1, math.MaxInt} {
				noSeek(t, s, x, offset)
			}
		}
	}
}

// P16.2, P16.3: behind a Seek back what was told and acknowledged is told again; behind one ahead, what is between is not.
func TestSeekBackAndAhead(t *testing.T) {
	x := made(t, 200)
	s := wantPoll(t, st(0, 0), x, 50, 50, recs(0, 50)...)
	s = wantAck(t, s, 49, 50)
	s = wantSeek(t, s, x, 10)
	s = wantPoll(t, s, x, 5, 15, recs(10, 15)...)
	noAck(t, s, 15)
	s = wantSeek(t, s, x, 150)
	s = wantPoll(t, s, x, 5, 155, recs(150, 155)...)
	s = wantAttach(t, s, st(150, 150))
	s = wantPoll(t, s, x, 5, 155, recs(150, 155)...)
	s = wantSeek(t, s, x, 200)
	s = wantPoll(t, s, x, 5, 200)
	publish(t, x, 200)
	wantPoll(t, s, x, 5, 201, rec(200))
}

// P16.2: a subscription whose Next is above the End of a topic, as one that was made anew may be, is brought back by a Seek.
func TestSeekFromAboveTheEnd(t *testing.T) {
	x := made(t, 10)
	s := st(20, 30)
	noPoll(t, s, x, 5)
	s = wantSeek(t, s, x, 8)
	wantPoll(t, s, x, 5, 10, recs(8, 10)...)
	s = wantAttach(t, st(9, 30), st(9, 9))
	wantPoll(t, s, x, 5, 10, rec(9))
}

// P16.2: compacting between Polls.
func TestPollBehindACompact(t *testing.T) {
	x := made(t, 12) // of the keys a, b, none, c in turn
	s := wantPoll(t, st(0, 0), x, 2, 2, recs(0, 2)...)
	x.Compact(9) // 2, 6 (without a key) and those from 8 on stay
	s = wantPoll(t, s, x, 1, 3, rec(2))
	s = wantPoll(t, s, x, 2, 9, these(6, 8)...)
	s = wantAck(t, s, 4, 5) // an offset that is gone may be acknowledged
	s = wantPoll(t, s, x, 50, 12, recs(9, 12)...)
	s = wantAttach(t, s, st(5, 5))
	wantPoll(t, s, x, 50, 12, these(6, 8, 9, 10, 11)...)
}
