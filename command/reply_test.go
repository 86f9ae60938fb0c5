package command_test

import (
	"math"
	"testing"

	"carillon/api"
	"carillon/command"
)

func rec(n int) api.Record {
	return api.Record{Offset: n, Producer: "p", Seq: n, Key: "k", Value: "v"}
}

// recs are n records of different sizes.
func recs(n int) []api.Record {
	var l []api.Record
	for i := range n {
		x := rec(i)
		x.Value = size("v", i)
		l = append(l, x)
	}
	return l
}

// rightRecords are records at each edge of what is right; a producer need not be a word.
func rightRecords() []api.Record {
	return []api.Record{
		{},
		rec(1),
		{Offset: great},
		{Seq: great},
		{Producer: size("p", 20)},
		{Producer: "Not a word\x00\xff"},
		{Key: size("k", 100)},
		{Value: size("v", 1000)},
		{Offset: great, Producer: size("\xff", 20), Seq: great, Key: size("\x00", 100), Value: size("\xff", 1000)},
		{Value: framed(plainRecord(rec(7)))},
	}
}

// wrongRecords are not right, each in one of its parts.
func wrongRecords() []api.Record {
	var l []api.Record
	for _, n := range append(append(farBelow(), -1), farBeyond()...) {
		offset, seq := rec(3), rec(3)
		offset.Offset, seq.Seq = n, n
		l = append(l, offset, seq)
	}
	for _, more := range []int{1, 2, 256} {
		producer, key, value := rec(3), rec(3), rec(3)
		producer.Producer, key.Key, value.Value = size("p", 20+more), size("k", 100+more), size("v", 1000+more)
		l = append(l, producer, key, value)
	}
	return l
}

// P14.3: the bytes of a reply, written out.
func TestReplyBytes(t *testing.T) {
	head := "\x00\x00\x00\x01\x02\x03\x04\x05" + "\x06" + "\x00\x00\x00\x00\x00\x00\x00\x00"
	first := "\x00\x00\x00\x00\x00\x00\x01\x02" + "\x00\x00\x00\x01p" + "\x00\x1f\xff\xff\xff\xff\xff\xff" + "\x00\x00\x00\x02kk" + "\x00\x00\x00\x03\x00v\xff"
	second := "\x00\x00\x00\x00\x00\x00\x00\x01" + "\x00\x00\x00\x00" + "\x00\x00\x00\x00\x00\x00\x00\x00" + "\x00\x00\x00\x00" + "\x00\x00\x00\x00"
	records := []api.Record{{Offset: 258, Producer: "p", Seq: great, Key: "kk", Value: "\x00v\xff"}, {Offset: 1}}
	for n, body := range []string{head, head + first, head + first + second} {
		r := api.Reply{Code: api.ROld, N: -1, Records: records[:n]}
		wantAnswer(t, 0x0102030405, r, framed(body), api.OK)
		wantAnswered(t, framed(body), 0x0102030405, r, api.OK)
	}
	top := "\x00\x1f\xff\xff\xff\xff\xff\xff" + "\xff" + "\x00\x20\x00\x00\x00\x00\x00\x00"
	wantAnswer(t, great, api.Reply{Code: 255, N: great}, framed(top), api.OK)
	wantAnswered(t, framed(top), great, api.Reply{Code: 255, N: great}, api.OK)
	wantAnswer(t, 0, api.Reply{}, framed(long(0)+"\x00"+long(1)), api.OK)
}

// P14.3: ask, Code and N at their ends, and beyond them.
func TestReplyNumbers(t *testing.T) {
	for _, l := range [][]api.Record{nil, {}, recs(1), recs(3)} {
		for _, ask := range []int{0, 1, 256, 1 << 32, great - 1, great} {
			wantAllOf(t, ask, api.Reply{Code: 1, N: 2, Records: l}, true)
		}
		for _, ask := range append(append(farBelow(), -1), farBeyond()...) {
			wantAllOf(t, ask, api.Reply{Code: 1, N: 2, Records: l}, false)
		}
		for code := range 256 {
			wantAllOf(t, 5, api.Reply{Code: code, N: 2, Records: l}, true)
		}
		for _, code := range []int{math.MinInt, -256, -255, -2, -1, 256, 257, 512, 1 << 32, math.MaxInt} {
			wantAllOf(t, 5, api.Reply{Code: code, N: 2, Records: l}, false)
		}
		for _, n := range []int{-1, 0, 1, 255, 256, 1 << 32, great - 1, great} {
			wantAllOf(t, 5, api.Reply{Code: 1, N: n, Records: l}, true)
		}
		for _, n := range append(farBelow(), farBeyond()...) {
			wantAllOf(t, 5, api.Reply{Code: 1, N: n, Records: l}, false)
		}
	}
}

// P14.3: of none to MaxPoll records, and of more.
func TestHowManyRecords(t *testing.T) {
	for n := range 60 {
		wantAllOf(t, 5, api.Reply{N: 2, Records: recs(n)}, n <= api.MaxPoll)
	}
	for _, n := range []int{100, 199, 200, 256, 300, 306, 1000} { // a code has room for 199
		wantAllOf(t, 5, api.Reply{N: 2, Records: make([]api.Record, n)}, false)
	}
	most := rightRecords()[8]
	var l []api.Record
	for range api.MaxPoll {
		l = append(l, most)
	}
	wantAllOf(t, great, api.Reply{Code: 255, N: great, Records: l}, true)
}

// P14.3: records need be right, at each place; they need not rise.
func TestRecordsOfAReply(t *testing.T) {
	for _, x := range rightRecords() {
		wantAllOf(t, 5, api.Reply{Records: []api.Record{x}}, true)
		wantAllOf(t, 5, api.Reply{Records: []api.Record{rec(9), x, rec(3), x, rec(3)}}, true)
	}
	wantAllOf(t, 5, api.Reply{Records: rightRecords()}, true)
	for _, x := range wrongRecords() {
		wantAllOf(t, 5, api.Reply{Records: []api.Record{x}}, false)
		for at := range api.MaxPoll {
			l := recs(api.MaxPoll)
			l[at] = x
			wantAllOf(t, 5, api.Reply{Records: l}, false)
		}
	}
}

// P14.3: longs in the bytes beyond 2^53 - 1, and, where N and 1 stands, beyond 2^53.
func TestReplyLongsBeyond(t *testing.T) {
	code := func(ask, n, offset, seq uint64) string {
		return framed(long(ask) + "\x01" + long(n) + long(offset) + text("p") + long(seq) + text("k") + text("v"))
	}
	top := api.Record{Offset: great, Producer: "p", Seq: great, Key: "k", Value: "v"}
	wantAnswered(t, code(great, great+1, great, great), great, api.Reply{Code: 1, N: great, Records: []api.Record{top}}, api.OK)
	for _, n := range append(longsBeyond(), great+1) {
		wantAnswered(t, code(n, 0, 0, 0), 0, api.Reply{}, api.ErrForm)
		wantAnswered(t, code(0, 0, n, 0), 0, api.Reply{}, api.ErrForm)
		wantAnswered(t, code(0, 0, 0, n), 0, api.Reply{}, api.ErrForm)
	}
	for _, n := range longsBeyond() {
		wantAnswered(t, code(0, n, 0, 0), 0, api.Reply{}, api.ErrForm)
		wantAnswered(t, framed(long(0)+"\x01"+long(n)), 0, api.Reply{}, api.ErrForm)
	}
}

// P14.3: each beginning of a body, but where a record ends; more than a body; other shapes.
func TestReplyBodies(t *testing.T) {
	r := api.Reply{Code: 7, N: 8, Records: recs(3)}
	s := plainReply(6, r)
	ends := map[int]int{}
	for n := range 4 {
		ends[len(plainReply(6, api.Reply{Records: r.Records[:n]}))] = n
	}
	for n := range len(s) {
		if k, ok := ends[n]; ok {
			wantAnswered(t, framed(s[:n]), 6, api.Reply{Code: 7, N: 8, Records: r.Records[:k]}, api.OK)
		} else {
			wantAnswered(t, framed(s[:n]), 0, api.Reply{}, api.ErrForm)
		}
	}
	record := plainRecord(rec(1))
	for _, body := range []string{
		s + "\x00", s + s, s + record[:len(record)-1], s + record + "\x00", s[1:], "\x00" + s, framed(s), "no reply",
		long(6) + "\x07" + four(8),
		long(6) + long(great) + "\x07",
		long(6) + "\x07" + long(8) + framed(record),
		long(6) + "\x07" + long(8) + text("p") + record,
		long(6) + "\x07" + long(8) + long(1) + text("p") + long(1) + text("k") + four(100001) + size("v", 100001),
		long(6) + "\x07" + long(8) + long(1) + text("p") + long(1) + text("k") + four(math.MaxUint32) + "v",
		plainCode(one(api.CPublish)),
		size("\x00", api.MaxFrame),
	} {
		wantAnswered(t, framed(body), 0, api.Reply{}, api.ErrForm)
	}
	for _, x := range wrongRecords() {
		wantAnswered(t, framed(s+plainRecord(x)), 0, api.Reply{}, api.ErrForm)
		wantAnswered(t, framed(s+plainRecord(x)+record), 0, api.Reply{}, api.ErrForm)
	}
}

// P14.3: frames that crc.Take refuses, and bytes that are left over behind one.
func TestAnsweredFrames(t *testing.T) {
	for _, r := range []api.Reply{{}, {Code: 7, N: 8, Records: recs(2)}} {
		for s, fault := range wrongFrames(framed(plainReply(6, r))) {
			wantAnswered(t, s, 0, api.Reply{}, fault)
		}
	}
	wantAnswered(t, framed(plainReply(-1, api.Reply{}))+"x", 0, api.Reply{}, api.ErrForm)
	wantAnswered(t, plainReply(6, api.Reply{}), 0, api.Reply{}, plainFault(plainReply(6, api.Reply{})))
}

// P5: a list of nothing may be nil or empty.
func TestRecordsOfNothing(t *testing.T) {
	for _, l := range [][]api.Record{nil, {}, make([]api.Record, 0, 9)} {
		wantAllOf(t, 1, api.Reply{Code: 3, N: 4, Records: l}, true)
	}
	if _, r, _ := command.Answered(framed(plainReply(1, api.Reply{}))); len(r.Records) != 0 {
		t.Error(r)
	}
}
