package command_test

import (
	"fmt"
	"math"
	"slices"
	"testing"

	"carillon/api"
	"carillon/codec"
	"carillon/command"
)

// kinds are all of them.
func kinds() []int {
	return []int{api.CCreate, api.CPublish, api.CSubscribe, api.CAttach, api.CPoll, api.CAck, api.CSeek, api.CTrim, api.CCompact, api.CJoin, api.CLeave}
}

// noKinds are none.
func noKinds() []int {
	l := []int{math.MinInt, -256, -255, -2, -1, 0, 12, 13, 64, 100, 255, 256, 1 << 32, 1<<32 + 1, math.MaxInt}
	for _, kind := range kinds() {
		l = append(l, -kind, kind+256, kind+512, kind-256, kind+1<<32)
	}
	return l
}

// one is a right command of a Kind.
func one(kind int) api.Command {
	c := api.Command{Kind: kind, Node: 0, Ask: 3}
	words, others, _, _ := row(kind)
	for _, x := range words + others {
		switch x {
		case 't':
			c.Topic = "news"
		case 'n':
			c.Name = "p1"
		case 's':
			c.Seq = 4
		case 'k':
			c.Key = "Key"
		case 'v':
			c.Value = "\x00Value"
		case 'N':
			c.N = 5
		}
	}
	return c
}

// with is a command with a change.
func with(c api.Command, change func(*api.Command)) api.Command {
	change(&c)
	return c
}

// texts are the ways to set each field of a command that is a text, by the letters of row.
func texts() map[rune]func(*api.Command, string) {
	return map[rune]func(*api.Command, string){
		't': func(c *api.Command, s string) { c.Topic = s },
		'n': func(c *api.Command, s string) { c.Name = s },
		'k': func(c *api.Command, s string) { c.Key = s },
		'v': func(c *api.Command, s string) { c.Value = s },
	}
}

// rightWords are words, at each edge of what is one.
func rightWords() []string {
	l := []string{"a", "z", "0", "9", "az09", "00", "news", wordBytes[:20], wordBytes[16:]}
	for _, b := range wordBytes {
		l = append(l, string(b), size(string(b), 20), "m"+string(b)+"m")
	}
	return l
}

// wrongWords are not, by their length, or by a byte at each place.
func wrongWords() []string {
	l := []string{"", size("a", 21), size("9", 21), size("z", 22), size("a", 1000), size("a", 276), "A", "Z", "aB", " ", "a ", " a", "\x00", "a\x00", "é", "aé", "\xff", "a-b", "a.b", "a_b", "٣", "ａ", "\n"}
	for _, b := range []byte{'a' - 1, 'z' + 1, '0' - 1, '9' + 1, 'A', 'M', 'Z', 0, 0x7f, 0x80, 'a' | 0x80, '0' | 0x80, 0xff} {
		s := string([]byte{b})
		l = append(l, s, s+"a", "a"+s, "a"+s+"a", size("a", 19)+s, s+size("a", 19), size(s, 20))
	}
	return l
}

// P14.1: the chapter's examples, line by line.
func TestExamples(t *testing.T) {
	wantRight(t, api.Command{Kind: api.CCreate, Topic: "a"}, true)
	wantRight(t, api.Command{Kind: api.CCreate, Topic: "A"}, false)
	wantRight(t, api.Command{Kind: api.CCreate, Topic: "a", Seq: 1}, false)
	seek := api.Command{Kind: api.CSeek, Name: "s", N: 5}
	s, e := command.Encode(seek)
	if e != api.OK {
		t.Error(e)
	}
	wantDecode(t, s, seek, api.OK)
	wantRequest(t, api.Command{Kind: api.CPoll, Name: "s"}, "", api.ErrArg)
}

// P14.1: words.
func TestWord(t *testing.T) {
	for _, s := range rightWords() {
		if !command.Word(s) {
			t.Errorf("Word(%q): false", s)
		}
	}
	for _, s := range wrongWords() {
		if command.Word(s) {
			t.Errorf("Word(%q): true", s)
		}
	}
	for length := range 100 {
		if command.Word(size("x", length)) != (length >= 1 && length <= api.MaxWord) {
			t.Errorf("Word of %d letters: %v", length, length < 1 || length > api.MaxWord)
		}
	}
}

// P14.1: each byte, and each two bytes.
func TestWordOfEachByte(t *testing.T) {
	for a := range 256 {
		s := string([]byte{byte(a)})
		if command.Word(s) != plainWord(s) {
			t.Errorf("Word(%q): %v", s, !plainWord(s))
		}
		for b := range 256 {
			s := string([]byte{byte(a), byte(b)})
			if command.Word(s) != plainWord(s) {
				t.Errorf("Word(%q): %v", s, !plainWord(s))
			}
		}
	}
}

// P14.1, P14.2: a right command of each Kind, and its bytes, written out.
func TestBytes(t *testing.T) {
	nought := "\x00\x00\x00\x00\x00\x00\x00\x00"
	for _, x := range []struct {
		c    api.Command
		want string
	}{
		{api.Command{Kind: api.CCreate, Topic: "a"}, "\x01" + "\x00\x00\x00\x01a" + "\x00\x00\x00\x00" + nought + "\x00\x00\x00\x00" + "\x00\x00\x00\x00" + nought[:7] + "\x01" + "\x00" + nought},
		{api.Command{Kind: api.CPublish, Topic: "ab", Name: "p", Seq: 258, Key: "K", Value: "xyz", Ask: 0x0102030405}, "\x02" + "\x00\x00\x00\x02ab" + "\x00\x00\x00\x01p" + nought[:6] + "\x01\x02" + "\x00\x00\x00\x01K" + "\x00\x00\x00\x03xyz" + nought[:7] + "\x01" + "\x00" + "\x00\x00\x00\x01\x02\x03\x04\x05"},
		{api.Command{Kind: api.CSubscribe, Topic: "a", Name: "s", N: -1, Ask: great}, "\x03" + "\x00\x00\x00\x01a" + "\x00\x00\x00\x01s" + nought + "\x00\x00\x00\x00" + "\x00\x00\x00\x00" + nought + "\x00" + "\x00\x1f\xff\xff\xff\xff\xff\xff"},
		{api.Command{Kind: api.CSubscribe, Topic: "a", Name: "s", N: great}, "\x03" + "\x00\x00\x00\x01a" + "\x00\x00\x00\x01s" + nought + "\x00\x00\x00\x00" + "\x00\x00\x00\x00" + "\x00\x20\x00\x00\x00\x00\x00\x00" + "\x00" + nought},
		{api.Command{Kind: api.CAttach, Name: "s", Node: 6, Ask: 9}, "\x04" + "\x00\x00\x00\x00" + "\x00\x00\x00\x01s" + nought + "\x00\x00\x00\x00" + "\x00\x00\x00\x00" + nought[:7] + "\x01" + "\x06" + nought[:7] + "\x09"},
		{api.Command{Kind: api.CPoll, Name: "s", N: 50}, "\x05" + "\x00\x00\x00\x00" + "\x00\x00\x00\x01s" + nought + "\x00\x00\x00\x00" + "\x00\x00\x00\x00" + nought[:7] + "\x33" + "\x00" + nought},
		{api.Command{Kind: api.CAck, Name: "s", N: 255}, "\x06" + "\x00\x00\x00\x00" + "\x00\x00\x00\x01s" + nought + "\x00\x00\x00\x00" + "\x00\x00\x00\x00" + nought[:6] + "\x01\x00" + "\x00" + nought},
		{api.Command{Kind: api.CSeek, Name: "s", N: 5}, "\x07" + "\x00\x00\x00\x00" + "\x00\x00\x00\x01s" + nought + "\x00\x00\x00\x00" + "\x00\x00\x00\x00" + nought[:7] + "\x06" + "\x00" + nought},
		{api.Command{Kind: api.CTrim, Topic: "a", N: 0}, "\x08" + "\x00\x00\x00\x01a" + "\x00\x00\x00\x00" + nought + "\x00\x00\x00\x00" + "\x00\x00\x00\x00" + nought[:7] + "\x01" + "\x00" + nought},
		{api.Command{Kind: api.CCompact, Topic: "a", N: 1}, "\x09" + "\x00\x00\x00\x01a" + "\x00\x00\x00\x00" + nought + "\x00\x00\x00\x00" + "\x00\x00\x00\x00" + nought[:7] + "\x02" + "\x00" + nought},
		{api.Command{Kind: api.CJoin, N: 6}, "\x0a" + "\x00\x00\x00\x00" + "\x00\x00\x00\x00" + nought + "\x00\x00\x00\x00" + "\x00\x00\x00\x00" + nought[:7] + "\x07" + "\x00" + nought},
		{api.Command{Kind: api.CLeave, N: 0, Node: 1}, "\x0b" + "\x00\x00\x00\x00" + "\x00\x00\x00\x00" + nought + "\x00\x00\x00\x00" + "\x00\x00\x00\x00" + nought[:7] + "\x01" + "\x01" + nought},
	} {
		wantRight(t, x.c, true)
		wantEncode(t, x.c, x.want, api.OK)
		wantDecode(t, x.want, x.c, api.OK)
		if x.c.Node == 0 {
			wantRequest(t, x.c, framed(x.want), api.OK)
			wantAsked(t, framed(x.want), x.c, api.OK)
		}
	}
	for _, kind := range kinds() {
		wantAll(t, one(kind), true)
	}
}

// P14.1: a Kind that is none, whatever the other fields are, and though its lowest byte is a Kind.
func TestNoKinds(t *testing.T) {
	for _, kind := range noKinds() {
		wantAll(t, api.Command{Kind: kind}, false)
		for _, other := range kinds() {
			wantAll(t, with(one(other), func(c *api.Command) { c.Kind = kind }), false)
		}
	}
	code := plainCode(api.Command{Kind: api.CJoin, N: 1})
	for b := range 256 {
		if b != api.CJoin && b != api.CLeave {
			wantDecode(t, string([]byte{byte(b)})+code[1:], api.Command{}, api.ErrForm)
		}
	}
}

// P14.1: the words of each Kind, at all edges, and what is no word in place of each.
func TestWordsOfEachKind(t *testing.T) {
	for _, kind := range kinds() {
		words, _, _, _ := row(kind)
		for _, field := range words {
			set := texts()[field]
			for _, s := range rightWords() {
				wantAll(t, with(one(kind), func(c *api.Command) { set(c, s) }), true)
			}
			for _, s := range wrongWords() {
				wantAll(t, with(one(kind), func(c *api.Command) { set(c, s) }), false)
			}
		}
	}
}

// P14.1: a field that a Kind does not have must be nothing.
func TestFieldsThatAKindHasNot(t *testing.T) {
	for _, kind := range kinds() {
		words, others, _, _ := row(kind)
		for field, set := range texts() {
			if !slices.Contains([]rune(words+others), field) {
				for _, s := range []string{"a", "\x00", " ", size("a", 20), size("a", 100001)} {
					wantAll(t, with(one(kind), func(c *api.Command) { set(c, s) }), false)
				}
			}
		}
		if kind != api.CPublish {
			for _, n := range append([]int{-1, 1, 2, 255, 256, great}, farBeyond()...) {
				wantAll(t, with(one(kind), func(c *api.Command) { c.Seq = n }), false)
			}
		}
		if !slices.Contains([]rune(others), 'N') {
			for _, n := range append([]int{-1, 1, 2, 6, 50, 255, 256, great}, farBeyond()...) {
				wantAll(t, with(one(kind), func(c *api.Command) { c.N = n }), false)
			}
		}
	}
}

// P14.1, P14.2: Node and Ask of each Kind, at either side of their ends.
func TestNodeAndAsk(t *testing.T) {
	for _, kind := range kinds() {
		for node := range api.MaxNodes {
			wantAll(t, with(one(kind), func(c *api.Command) { c.Node = node }), true)
		}
		for _, node := range []int{math.MinInt, -256, -250, -7, -1, 7, 8, 10, 255, 256, 257, 262, 1 << 32, great, math.MaxInt} {
			wantAll(t, with(one(kind), func(c *api.Command) { c.Node = node }), false)
		}
		for _, ask := range []int{0, 1, 255, 256, 1 << 31, 1 << 32, 1 << 52, great - 1, great} {
			wantAll(t, with(one(kind), func(c *api.Command) { c.Ask = ask }), true)
		}
		for _, ask := range append(append(farBelow(), -1), farBeyond()...) {
			wantAll(t, with(one(kind), func(c *api.Command) { c.Ask = ask }), false)
		}
	}
}

// P14.1: N of each Kind, at either side of what it may be.
func TestN(t *testing.T) {
	for _, x := range []struct {
		kinds        []int
		right, wrong []int
	}{
		{[]int{api.CCreate, api.CPublish, api.CAttach}, []int{0}, []int{-1, 1, 6, 7, 50, 51, great}},
		{[]int{api.CSubscribe}, []int{-1, 0, 1, 6, 7, 50, 51, 100, great - 1, great}, nil},
		{[]int{api.CPoll}, []int{1, 2, 6, 7, 49, 50}, []int{-1, 0, 51, 52, 100, 256, great}},
		{[]int{api.CAck, api.CSeek, api.CTrim, api.CCompact}, []int{0, 1, 6, 7, 50, 51, 100, great - 1, great}, []int{-1}},
		{[]int{api.CJoin, api.CLeave}, []int{0, 1, 2, 3, 4, 5, 6}, []int{-1, 7, 8, 50, 256, great}},
	} {
		for _, kind := range x.kinds {
			for _, n := range x.right {
				wantAll(t, with(one(kind), func(c *api.Command) { c.N = n }), true)
			}
			for _, n := range slices.Concat(x.wrong, farBelow(), farBeyond()) {
				wantAll(t, with(one(kind), func(c *api.Command) { c.N = n }), false)
			}
		}
	}
}

// P14.1: a publish's Seq, Key and Value, at their ends and beyond them.
func TestPublish(t *testing.T) {
	c := one(api.CPublish)
	for _, n := range []int{0, 1, 255, 256, 1 << 32, great - 1, great} {
		wantAll(t, with(c, func(c *api.Command) { c.Seq = n }), true)
	}
	for _, n := range append(append(farBelow(), -1), farBeyond()...) {
		wantAll(t, with(c, func(c *api.Command) { c.Seq = n }), false)
	}
	for _, x := range []struct {
		most int
		set  func(*api.Command, string)
	}{{api.MaxKey, texts()['k']}, {api.MaxValue, texts()['v']}} {
		for _, s := range []string{"", "A", "\x00", "\xff\xfe", "é .", size("\x00", x.most-1), size("\xff", x.most)} {
			wantAll(t, with(c, func(c *api.Command) { x.set(c, s) }), true)
		}
		for _, s := range []string{size("a", x.most+1), size("\x00", x.most+2), size("a", 2*x.most), size("a", x.most+256), size("a", api.MaxText), size("a", api.MaxText+1)} {
			wantAll(t, with(c, func(c *api.Command) { x.set(c, s) }), false)
		}
	}
	most := api.Command{Kind: api.CPublish, Topic: size("t", 20), Name: size("n", 20), Seq: great, Key: size("k", 100), Value: size("v", 1000), Node: 6, Ask: great}
	wantAll(t, most, true)
	wantAll(t, with(most, func(c *api.Command) { c.Node = 0 }), true)
	wantAll(t, api.Command{Kind: api.CPublish, Topic: "t", Name: "n"}, true)
}

// P14.1: commands of each Kind with all edges of all fields at once, held against a plain Right.
func TestAllEdges(t *testing.T) {
	words := []string{"", "z", size("a", 20), size("a", 21), "A"}
	numbers := []int{-1, 0, 1, great, great + 1}
	keys := []string{"", "k", size("K", 100), size("K", 101)}
	values := []string{"", "v", size("V", 1000), size("V", 1001)}
	ns := []int{-2, -1, 0, 1, 6, 7, 50, 51, great, great + 1}
	right := map[int]int{}
	for kind := 0; kind <= 12; kind++ {
		for at := range 5 * 5 * 5 * 4 * 4 * 10 * 4 * 4 {
			pick := func(n int) int {
				x := at % n
				at /= n
				return x
			}
			c := api.Command{Kind: kind, Topic: words[pick(5)], Name: words[pick(5)], Seq: numbers[pick(5)], Key: keys[pick(4)], Value: values[pick(4)],
				N: ns[pick(10)], Node: []int{-1, 0, 6, 7}[pick(4)], Ask: []int{-1, 0, great, great + 1}[pick(4)]}
			if !plainRight(c) {
				wantRight(t, c, false)
				continue
			}
			right[kind]++
			wantAll(t, c, true)
		}
		if t.Failed() {
			t.Fatalf("Kind %d", kind)
		}
	}
	// Four ways of Node and Ask; two right words; three of Seq, Key and Value each.
	want := map[int]int{api.CCreate: 8, api.CPublish: 4 * 4 * 27, api.CSubscribe: 4 * 4 * 8, api.CAttach: 8, api.CPoll: 8 * 4, api.CAck: 8 * 7, api.CSeek: 8 * 7, api.CTrim: 8 * 7, api.CCompact: 8 * 7, api.CJoin: 4 * 3, api.CLeave: 4 * 3}
	if fmt.Sprint(right) != fmt.Sprint(want) {
		t.Errorf("right ones, by Kinds: %v; want %v", right, want)
	}
}

// P14.1: longs in the bytes beyond 2^53 - 1, and, where N and 1 stands, beyond 2^53.
func TestLongsBeyond(t *testing.T) {
	code := func(kind byte, topic, name string, seq, n, ask uint64) string {
		return string([]byte{kind}) + text(topic) + text(name) + long(seq) + text("") + text("") + long(n) + "\x00" + long(ask)
	}
	wantDecode(t, code(api.CPublish, "a", "p", great, 1, great), api.Command{Kind: api.CPublish, Topic: "a", Name: "p", Seq: great, Ask: great}, api.OK)
	for _, n := range append(longsBeyond(), great+1) {
		wantDecode(t, code(api.CPublish, "a", "p", n, 1, 0), api.Command{}, api.ErrForm)
		wantDecode(t, code(api.CPublish, "a", "p", 0, 1, n), api.Command{}, api.ErrForm)
		wantAsked(t, framed(code(api.CPublish, "a", "p", n, 1, 0)), api.Command{}, api.ErrForm)
		wantAsked(t, framed(code(api.CPublish, "a", "p", 0, 1, n)), api.Command{}, api.ErrForm)
	}
	fields := map[int][2]string{api.CSubscribe: {"a", "s"}, api.CAck: {"", "s"}, api.CSeek: {"", "s"}, api.CTrim: {"a", ""}, api.CCompact: {"a", ""}, api.CPoll: {"", "s"}, api.CJoin: {}, api.CLeave: {}}
	for kind, x := range fields {
		top := api.Command{Kind: kind, Topic: x[0], Name: x[1], N: great}
		if kind == api.CPoll || kind == api.CJoin || kind == api.CLeave {
			wantDecode(t, code(byte(kind), x[0], x[1], 0, great+1, 0), api.Command{}, api.ErrForm)
		} else {
			wantDecode(t, code(byte(kind), x[0], x[1], 0, great+1, 0), top, api.OK)
		}
		for _, n := range longsBeyond() {
			wantDecode(t, code(byte(kind), x[0], x[1], 0, n, 0), api.Command{}, api.ErrForm)
			wantAsked(t, framed(code(byte(kind), x[0], x[1], 0, n, 0)), api.Command{}, api.ErrForm)
		}
	}
}

// P14.1: codec.Decode's errors: each beginning of a code, more than a code, texts that are too long, other shapes.
func TestDecodeErrors(t *testing.T) {
	for _, kind := range kinds() {
		s := plainCode(one(kind))
		for n := range len(s) {
			wantDecode(t, s[:n], api.Command{}, api.ErrShort)
			wantAsked(t, framed(s[:n]), api.Command{}, api.ErrForm)
		}
		for _, more := range []string{"\x00", "x", s, size("\x00", 8), size("\x00", 1000)} {
			wantDecode(t, s+more, api.Command{}, api.ErrForm)
			wantAsked(t, framed(s+more), api.Command{}, api.ErrForm)
		}
	}
	c := one(api.CPublish)
	for _, set := range texts() {
		set(&c, size("a", 100000))
		wantDecode(t, plainCode(c), api.Command{}, api.ErrForm)
		set(&c, size("a", 100001))
		wantDecode(t, plainCode(c), api.Command{}, api.ErrLong)
		wantDecode(t, plainCode(c)+"x", api.Command{}, api.ErrLong)
		wantAsked(t, framed(plainCode(c)), api.Command{}, api.ErrForm)
		c = one(api.CPublish)
	}
	wantDecode(t, "\x02"+four(100001), api.Command{}, api.ErrLong)
	wantDecode(t, "\x02"+four(100000), api.Command{}, api.ErrShort)
	wantDecode(t, "\x02"+four(math.MaxUint32)+"ab", api.Command{}, api.ErrLong)
	wantDecode(t, "", api.Command{}, api.ErrShort)
}

// P14.1: the codes of other shapes are told by codec.Decode's error, or are no right command's.
func TestOtherShapes(t *testing.T) {
	c := one(api.CPublish)
	for _, s := range []string{
		text(c.Topic) + plainCode(c),
		plainCode(c)[1:],
		four(2) + plainCode(c)[1:],
		"\x02" + text("a") + long(4) + text("p") + text("") + text("") + long(1) + "\x00" + long(0),
		"\x02" + text("a") + text("p") + long(4) + text("") + text("") + long(1) + long(great) + "\x00",
		"\x02" + text("a") + text("p") + four(4) + text("") + text("") + four(1) + "\x00" + four(0),
		"\x02" + text("a") + text("p") + long(4) + text("") + text("") + long(1) + "\x00" + four(0),
		"\x02" + text("a") + text("p") + long(4) + text("") + text("") + long(1) + "\x00" + long(0) + text(""),
		framed(plainCode(c)),
		size("\x00", 42), size("\x00", 43), size("\x01", 400), size("\xff", 100),
	} {
		_, fault := codec.Decode("bttlttlbl", s)
		if fault == api.OK {
			fault = api.ErrForm
		}
		wantDecode(t, s, api.Command{}, fault)
		wantAsked(t, framed(s), api.Command{}, api.ErrForm)
	}
}

// P14.2: a Node that is not 0, in Request, and in the bytes that are handed to Asked.
func TestOnlyTheBrokerSaysTheNode(t *testing.T) {
	for _, kind := range kinds() {
		for node := 1; node < 256; node++ {
			c := with(one(kind), func(c *api.Command) { c.Node = node })
			wantRequest(t, c, "", api.ErrArg)
			wantAsked(t, framed(plainCode(c)), api.Command{}, api.ErrForm)
		}
	}
}

// P14.2: frames that crc.Take refuses, and bytes that are left over behind one.
func TestAskedFrames(t *testing.T) {
	c := one(api.CPublish)
	for s, fault := range wrongFrames(framed(plainCode(c))) {
		wantAsked(t, s, api.Command{}, fault)
	}
	wantAsked(t, plainCode(c), api.Command{}, plainFault(plainCode(c)))
	wantAsked(t, framed(framed(plainCode(c))), api.Command{}, api.ErrForm)
	wantAsked(t, framed(""), api.Command{}, api.ErrForm)
	wantAsked(t, framed(plainCode(api.Command{}))+"x", api.Command{}, api.ErrForm)
	wantAsked(t, framed(plainReply(1, api.Reply{})), api.Command{}, api.ErrForm)
}

func plainFault(s string) api.Errno {
	_, fault := plainTake(s)
	return fault
}

// wrongFrames are made of a frame; with each, what is wrong of it.
func wrongFrames(s string) map[string]api.Errno {
	l := map[string]api.Errno{
		s + "\x00":                         api.ErrForm,
		s + s:                              api.ErrForm,
		s + s[:len(s)-1]:                   api.ErrForm,
		s + "\xff\xff\xff\xff":             api.ErrForm,
		s[:4] + size("\x00", 4) + s[8:]:    api.ErrSum,
		four(400001) + s[4:]:               api.ErrLong,
		four(math.MaxUint32) + s[4:]:       api.ErrLong,
		four(400000) + s[4:]:               api.ErrShort,
		four(uint32(len(s)-7)) + s[4:]:     api.ErrShort,
		four(uint32(len(s)-9)) + s[4:]:     api.ErrSum,
		"\x00" + s:                         plainFault("\x00" + s),
		s[1:]:                              plainFault(s[1:]),
		framed(size("\x00", api.MaxFrame)): api.ErrForm,
	}
	for n := range len(s) {
		l[s[:n]] = api.ErrShort
	}
	for bit := range 8 * (len(s) - 4) {
		b := []byte(s)
		b[4+bit/8] ^= 1 << (bit % 8)
		l[string(b)] = api.ErrSum
		l[string(b)+"x"] = api.ErrSum
	}
	return l
}
