package command_test

import (
	"slices"
	"sync"
	"testing"
	"unsafe"

	"carillon/api"
	"carillon/command"
)

// walk tells numbers below a bound, one behind the other, without a random source.
func walk(seed uint32) func(below int) int {
	return func(below int) int {
		seed = seed*1664525 + 1013904223
		return int(seed>>8) % below
	}
}

func someBytes(next func(int) int, most int) string {
	b := make([]byte, next(most+1))
	for i := range b {
		b[i] = byte(next(256))
	}
	return string(b)
}

func someWord(next func(int) int) string {
	b := make([]byte, 1+next(20))
	for i := range b {
		b[i] = wordBytes[next(len(wordBytes))]
	}
	return string(b)
}

// someNumber is 0 to 2^53 - 1, of few bits as often as of many.
func someNumber(next func(int) int) int {
	n := next(1<<24)<<29 | next(1<<24)<<5 | next(32)
	return n >> next(54)
}

// someCommand is a right one.
func someCommand(next func(int) int) api.Command {
	c := api.Command{Kind: kinds()[next(len(kinds()))], Node: next(2) * next(7), Ask: someNumber(next)}
	words, others, least, most := row(c.Kind)
	for _, field := range words + others {
		switch field {
		case 't':
			c.Topic = someWord(next)
		case 'n':
			c.Name = someWord(next)
		case 's':
			c.Seq = someNumber(next)
		case 'k':
			c.Key = someBytes(next, 100)
		case 'v':
			c.Value = someBytes(next, next(1001))
		case 'N':
			c.N = least + someNumber(next)%(most-least+1)
		}
	}
	return c
}

// someReply is a right one.
func someReply(next func(int) int) api.Reply {
	r := api.Reply{Code: next(256), N: someNumber(next) - 1}
	for range next(1 + next(51)) {
		x := api.Record{Offset: someNumber(next), Producer: someBytes(next, 20), Seq: someNumber(next), Key: someBytes(next, 100), Value: someBytes(next, next(1001))}
		r.Records = append(r.Records, x)
	}
	return r
}

// P14.4: Decode of Encode, Asked of Request, Answered of Answer are what they were.
func TestThereAndBack(t *testing.T) {
	next := walk(14)
	for range 5000 {
		c := someCommand(next)
		wantAll(t, c, true)
		s, _ := command.Encode(c)
		wantDecode(t, s, c, api.OK)
		if c.Node == 0 {
			s, _ = command.Request(c)
			wantAsked(t, s, c, api.OK)
		}
	}
	for range 1000 {
		ask, r := someNumber(next), someReply(next)
		wantAllOf(t, ask, r, true)
		s, _ := command.Answer(ask, r)
		wantAnswered(t, s, ask, r, api.OK)
	}
}

// holdBytes holds bytes at each reader against the plain ones; what is read is written as it stood.
func holdBytes(t *testing.T, s string) {
	t.Helper()
	c, fault := plainDecode(s)
	wantDecode(t, s, c, fault)
	if fault == api.OK {
		wantEncode(t, c, s, api.OK)
	}
	c, fault = plainAsked(s)
	wantAsked(t, s, c, fault)
	if fault == api.OK {
		wantRequest(t, c, s, api.OK)
	}
	ask, r, fault := plainAnswered(s)
	wantAnswered(t, s, ask, r, fault)
	if fault == api.OK {
		wantAnswer(t, ask, r, s, api.OK)
	}
}

// P14.4: bytes that are near to right ones: each byte of a code changed, taken out, put in, and the frame laid anew.
func TestBytesNearRightOnes(t *testing.T) {
	bodies := []string{plainReply(0, api.Reply{}), plainReply(great, api.Reply{Code: 255, N: great, Records: recs(2)})}
	for _, kind := range kinds() {
		bodies = append(bodies, plainCode(one(kind)))
	}
	bodies = append(bodies, plainCode(api.Command{Kind: api.CSubscribe, Topic: "a", Name: "s", N: -1, Node: 6, Ask: great}))
	for _, body := range bodies {
		for at := range len(body) {
			for _, b := range []byte{0, 1, 2, 6, 7, 0x1f, 0x20, '0', 'a', 'z', 0x80, 0xff, body[at] + 1, body[at] - 1} {
				for _, s := range []string{body[:at] + string([]byte{b}) + body[at+1:], body[:at] + string([]byte{b}) + body[at:], body[:at] + body[at+1:]} {
					holdBytes(t, s)
					holdBytes(t, framed(s))
				}
			}
		}
	}
}

// P2: beside an error all else is nothing, at each call.
func TestNothingBesideAnError(t *testing.T) {
	wrong := with(one(api.CPublish), func(c *api.Command) { c.N = 1 })
	if s, e := command.Encode(wrong); s != "" || e != api.ErrArg {
		t.Error(s, e)
	}
	if s, e := command.Request(wrong); s != "" || e != api.ErrArg {
		t.Error(s, e)
	}
	for _, s := range []string{plainCode(wrong), plainCode(one(api.CPublish)) + "x", plainCode(one(api.CPublish))[:50]} {
		if c, e := command.Decode(s); c != (api.Command{}) || e == api.OK {
			t.Error(c, e)
		}
		for _, f := range []string{framed(s), framed(s) + "x", framed(s)[:40]} {
			if c, e := command.Asked(f); c != (api.Command{}) || e == api.OK {
				t.Error(c, e)
			}
		}
	}
	r := api.Reply{Code: 1, N: 2, Records: append(recs(3), wrongRecords()[0])}
	if s, e := command.Answer(3, r); s != "" || e != api.ErrArg {
		t.Error(s, e)
	}
	right := framed(plainReply(3, api.Reply{Code: 1, N: 2, Records: recs(3)}))
	for _, f := range []string{framed(plainReply(3, r)), framed(plainReply(3, r)) + "x", right + "x", right[:40]} {
		if ask, r, e := command.Answered(f); ask != 0 || r.Code != 0 || r.N != 0 || len(r.Records) != 0 || e == api.OK {
			t.Error(ask, r, e)
		}
	}
}

// lent is a text whose bytes are the lender's, who may write into them.
func lent(b []byte) string { return unsafe.String(unsafe.SliceData(b), len(b)) }

// P3: nothing that is handed in is written into, and what is told is new memory.
func TestWritersAnswerNewMemory(t *testing.T) {
	b := []byte("abc")
	c := api.Command{Kind: api.CPublish, Topic: lent(b), Name: lent(b), Key: lent(b), Value: lent(b)}
	x := api.Record{Producer: lent(b), Key: lent(b), Value: lent(b)}
	room := []api.Record{x, x, rec(77), rec(78)}
	was := slices.Clone(room)
	code, _ := command.Encode(c)
	asked, _ := command.Request(c)
	told, _ := command.Answer(1, api.Reply{N: 2, Records: room[:2]})
	if string(b) != "abc" || !slices.Equal(room, was) {
		t.Error(string(b), room)
	}
	copy(b, "xyz")
	clear(room)
	whole := api.Command{Kind: api.CPublish, Topic: "abc", Name: "abc", Key: "abc", Value: "abc"}
	y := api.Record{Producer: "abc", Key: "abc", Value: "abc"}
	if code != plainCode(whole) || asked != framed(plainCode(whole)) || told != framed(plainReply(1, api.Reply{N: 2, Records: []api.Record{y, y}})) {
		t.Errorf("%x, %x, %x", code, asked, told)
	}
}

// P3: likewise of those that read.
func TestReadersAnswerNewMemory(t *testing.T) {
	c := one(api.CPublish)
	r := api.Reply{Code: 1, N: 2, Records: recs(5)}
	for _, s := range []string{plainCode(c), framed(plainCode(c)), framed(plainReply(3, r))} {
		b := []byte(s)
		decoded, e := command.Decode(lent(b))
		asked, f := command.Asked(lent(b))
		ask, told, g := command.Answered(lent(b))
		if string(b) != s {
			t.Errorf("%x; was %x", b, s)
		}
		clear(b)
		if e == api.OK && decoded != c || f == api.OK && asked != c || g == api.OK && (ask != 3 || !sameReply(told, r)) {
			t.Error(decoded, asked, told)
		}
		if e != api.OK && f != api.OK && g != api.OK {
			t.Error(e, f, g)
		}
	}
}

// P3: lists of two answers share no memory, spare room too.
func TestListsOfTwoAnswers(t *testing.T) {
	for n := range 20 {
		want := api.Reply{Code: 1, N: 2, Records: recs(n)}
		s := framed(plainReply(3, want))
		_, first, _ := command.Answered(s)
		_, second, _ := command.Answered(s)
		spare := first.Records[:cap(first.Records)]
		for i := range spare {
			spare[i] = rec(99)
		}
		if !sameReply(second, want) {
			t.Error(shown(second))
		}
		for _, x := range second.Records[n:cap(second.Records)] {
			if x != (api.Record{}) {
				t.Error(shown(x))
			}
		}
		wantAnswered(t, s, 3, want, api.OK)
	}
}

// P4: the same arguments, the same answer, whatever is asked between and beside it.
func TestAnswersHangOnArgumentsAlone(t *testing.T) {
	var workers sync.WaitGroup
	for worker := range 8 {
		workers.Go(func() {
			next := walk(uint32(worker % 2))
			for range 200 {
				c := someCommand(next)
				wantAll(t, c, true)
				wantAll(t, with(c, func(c *api.Command) { c.Ask = -1 }), false)
				wantAllOf(t, c.Ask, someReply(next), true)
			}
		})
	}
	workers.Wait()
}

// P1, P14.1 to P14.4: bytes of all kinds, as they are, and as the body of a frame, held against plain readers.
func FuzzBytes(f *testing.F) {
	f.Add("")
	for _, kind := range kinds() {
		f.Add(plainCode(one(kind)))
	}
	f.Add(plainCode(api.Command{Kind: api.CSubscribe, Topic: "a", Name: "s", N: -1, Node: 6, Ask: great}))
	f.Add(plainReply(0, api.Reply{}))
	f.Add(plainReply(great, api.Reply{Code: 255, N: -1, Records: recs(3)}))
	f.Add(plainReply(1, api.Reply{Records: recs(51)}))
	f.Fuzz(func(t *testing.T, s string) {
		holdBytes(t, s)
		holdBytes(t, framed(s))
	})
}

// P1, P14.1, P14.2: commands of all kinds, held against a plain Right.
func FuzzCommands(f *testing.F) {
	for _, kind := range append(kinds(), noKinds()...) {
		c := one(kind)
		f.Add(c.Kind, c.Topic, c.Name, c.Seq, c.Key, c.Value, c.N, c.Node, c.Ask)
	}
	f.Add(api.CSubscribe, "a", "S", great, "k", "v", -1, 7, great+1)
	f.Fuzz(func(t *testing.T, kind int, topic, name string, seq int, key, value string, n, node, ask int) {
		c := api.Command{Kind: kind, Topic: topic, Name: name, Seq: seq, Key: key, Value: value, N: n, Node: node, Ask: ask}
		wantAll(t, c, plainRight(c))
		for _, s := range []string{topic, name, key, value} {
			if command.Word(s) != plainWord(s) {
				t.Errorf("Word(%q): %v", s, !plainWord(s))
			}
		}
		x := api.Record{Offset: n, Producer: name, Seq: seq, Key: key, Value: value}
		r := api.Reply{Code: kind, N: n, Records: []api.Record{{}, x}}
		wantAllOf(t, ask, r, plainReplyRight(ask, r))
		wantAllOf(t, ask, api.Reply{Code: kind, N: seq}, plainReplyRight(ask, api.Reply{Code: kind, N: seq}))
	})
}
