package node_test

import (
	"slices"
	"testing"

	"carillon/api"
	"carillon/codec"
	"carillon/node"
)

// wantBytes asks that a message is right, told as these bytes, and read as it was.
func wantBytes(t *testing.T, x api.Message, want string) {
	t.Helper()
	if !node.Right(x) {
		t.Errorf("Right %s: false", shownMessage(x))
	}
	s, e := node.Encode(x)
	if s != want || e != api.OK {
		t.Errorf("Encode %s: %s, %d; want %s", shownMessage(x), brief(s), e, brief(want))
	}
	back, e := node.Decode(want)
	if !sameMessage(back, x) || e != api.OK {
		t.Errorf("Decode: %s, %d; want %s", shownMessage(back), e, shownMessage(x))
	}
}

// wantNoMessage asks that a message is not right, and has no bytes.
func wantNoMessage(t *testing.T, x api.Message) {
	t.Helper()
	if node.Right(x) {
		t.Errorf("Right %s: true", shownMessage(x))
	}
	if s, e := node.Encode(x); s != "" || e != api.ErrArg {
		t.Errorf("Encode %s: %s, %d", shownMessage(x), brief(s), e)
	}
}

// wantFault asks that Decode tells an error, and nothing beside it.
func wantFault(t *testing.T, name, s string, want api.Errno) {
	t.Helper()
	x, e := node.Decode(s)
	if e != want || !sameMessage(x, api.Message{}) || len(x.Texts) > 0 {
		t.Errorf("Decode %s (%s): %s, %d; want %d", name, brief(s), shownMessage(x), e, want)
	}
}

// rightMessages are some of each kind, at the edges of each field and between.
func rightMessages() []api.Message {
	var l []api.Message
	for kind := 1; kind <= 10; kind++ {
		x := api.Message{Kind: kind, From: kind % 7, Life: kind}
		l = append(l, x)
		for _, change := range rightChanges() {
			y := x
			change(&y)
			l = append(l, y)
		}
	}
	return l
}

// rightChanges are ways to have a right message be another one.
func rightChanges() []func(*api.Message) {
	var l []func(*api.Message)
	for n := range 7 {
		l = append(l, func(x *api.Message) { x.From = n }, func(x *api.Message) { x.Ballot = bal(1, n) }, func(x *api.Message) { x.Taken = bal(1, n) })
	}
	for _, n := range []int{1, 2, 255, 256, 1 << 32, great - 1, great} {
		l = append(l, func(x *api.Message) { x.Life = n }, func(x *api.Message) { x.View = n }, func(x *api.Message) { x.N = n }, func(x *api.Message) { x.Sure = n },
			func(x *api.Message) { x.Ballot = bal(n, 0) }, func(x *api.Message) { x.Taken = bal(n, 6) })
	}
	for _, s := range []string{"", "v", "\x00\xff", "é", times("v", 255), times("v", 256)} {
		l = append(l, func(x *api.Message) { x.Value = s }, func(x *api.Message) { x.Texts = []string{s} }, func(x *api.Message) { x.Texts = []string{"a", s, "b"} })
	}
	return append(l,
		func(x *api.Message) { x.Value = times("v", api.MaxText) },
		func(x *api.Message) { x.Texts = []string{times("t", api.MaxText), "", times("u", api.MaxText)} },
		func(x *api.Message) { x.Texts = make([]string, 979) },
		func(x *api.Message) { x.Texts = make([]string, 980) },
		func(x *api.Message) { x.Texts = slices.Repeat([]string{"text"}, 980) },
		func(x *api.Message) { x.Ballot, x.Taken = bal(3, 2), bal(9, 1) }, // of a message no more is asked than the chapter does
		func(x *api.Message) { x.Value, x.Taken = "v", none },
		func(x *api.Message) {
			*x = api.Message{Kind: x.Kind, From: 6, Life: great, View: great, N: great, Sure: great, Ballot: bal(great, 6), Taken: bal(great, 6), Value: "v", Texts: []string{"", "t"}}
		},
	)
}

// P20.3: the bytes of a message, one by one.
func TestBytesOfAMessage(t *testing.T) {
	x := api.Message{Kind: 5, From: 2, Life: 3, View: 4, N: 5, Sure: 6, Ballot: bal(7, 1), Taken: bal(258, 6), Value: "v", Texts: []string{"", "ab"}}
	long := func(n byte) string { return "\x00\x00\x00\x00\x00\x00\x00" + string([]byte{n}) }
	wantBytes(t, x, "\x05\x02"+long(3)+long(4)+long(5)+long(6)+long(7)+"\x01"+"\x00\x00\x00\x00\x00\x00\x01\x02"+"\x06"+"\x00\x00\x00\x01v"+"\x00\x00\x00\x00"+"\x00\x00\x00\x02ab")
	wantBytes(t, api.Message{Kind: 1, From: 0, Life: 1}, "\x01\x00"+long(1)+long(0)+long(0)+long(0)+long(0)+"\x00"+long(0)+"\x00"+"\x00\x00\x00\x00")
	wantBytes(t, api.Message{Kind: 10, From: 6, Life: 1<<53 - 1}, "\x0a\x06"+"\x00\x1f\xff\xff\xff\xff\xff\xff"+long(0)+long(0)+long(0)+long(0)+"\x00"+long(0)+"\x00"+"\x00\x00\x00\x00")
}

// P20.3, T6: messages of each kind go there and back.
func TestMessagesThereAndBack(t *testing.T) {
	t.Parallel()
	for _, x := range rightMessages() {
		wantBytes(t, x, bytesOf(x))
	}
}

// P20.3, P2, P6: a message that is not right, by each of its fields, has no bytes; and bytes of such a one, where there are any, are refused.
func TestMessagesThatAreNotRight(t *testing.T) {
	isByte := func(n int) bool { return 0 <= n && n < 256 }
	for _, x := range wrongMessages() {
		wantNoMessage(t, x)
		if isByte(x.Kind) && isByte(x.From) && isByte(x.Ballot.Node) && isByte(x.Taken.Node) && len(x.Value) <= api.MaxText && len(x.Texts) != 2 && len(x.Texts) < 5000 {
			wantFault(t, "not right", bytesOf(x), api.ErrForm)
		}
	}
	wantNoMessage(t, api.Message{})
	wantFault(t, "no kind", bytesOf(api.Message{}), api.ErrForm)
	right := bytesOf(api.Message{Kind: 3, From: 1, Life: 1})
	for _, start := range []int{2, 10, 18, 26, 34, 43} {
		for place, b := range []byte{0x80, 0x20} { // 2^63 and 2^53, which are past the end
			s := []byte(right)
			s[start+place] |= b
			wantFault(t, "past the end", string(s), api.ErrForm)
		}
	}
}

// P20.3: cut anywhere a code is too short, but where a text begins; longer by a byte it is too short, and by a text of nothing it has one more.
func TestMessagesCutAndLonger(t *testing.T) {
	for kind := 1; kind <= 10; kind++ {
		x := api.Message{Kind: kind, From: 1, Life: 1, View: 2, Ballot: bal(1, 1), Value: "value", Texts: []string{"ab", "", "cde"}}
		s := bytesOf(x)
		ends := map[int]int{}
		for n := range len(x.Texts) + 1 {
			y := x
			y.Texts = x.Texts[:n]
			ends[len(bytesOf(y))] = n
		}
		for n := range len(s) + 1 {
			if texts, ok := ends[n]; ok {
				y := x
				y.Texts = x.Texts[:texts]
				wantBytes(t, y, s[:n])
			} else {
				wantFault(t, "cut", s[:n], api.ErrShort)
			}
		}
		for b := range 256 {
			wantFault(t, "a byte more", s+byteOf(b), api.ErrShort)
		}
		x.Texts = append(x.Texts, "")
		wantBytes(t, x, s+"\x00\x00\x00\x00")
	}
}

// P20.3, P2: codec's errors, ahead of those of what is not right; too many texts.
func TestErrorsOfAMessage(t *testing.T) {
	x := api.Message{Kind: 9, From: 1, Life: 1}
	wrong := api.Message{Kind: 99, From: 99, Life: 1}
	for _, y := range []api.Message{x, wrong} {
		head := bytesOf(y)
		noValue := head[:len(head)-4]
		wantFault(t, "a Value that is too long", noValue+"\x00\x01\x86\xa1"+times("v", 100001), api.ErrLong)
		wantFault(t, "a Value that is far too long", noValue+"\xff\xff\xff\xff", api.ErrLong)
		wantFault(t, "a text that is too long", head+"\x00\x01\x86\xa1"+times("t", 100001), api.ErrLong)
		wantFault(t, "a part of a Value", noValue+"\x00\x00\x00\x05v", api.ErrShort)
		wantFault(t, "a part of a length", head+"\x00\x00\x00", api.ErrShort)
		wantFault(t, "a text without bytes", head+"\x00\x00\x00\x01", api.ErrShort)
		for _, n := range []int{981, 982, 989} {
			wantFault(t, "too many texts", head+times("\x00\x00\x00\x00", n), api.ErrForm)
		}
		for _, n := range []int{990, 991, 5000} {
			wantFault(t, "too many items", head+times("\x00\x00\x00\x00", n), api.ErrLong)
		}
	}
	x.Texts = make([]string, 980)
	wantBytes(t, x, bytesOf(x))
	wantFault(t, "nothing", "", api.ErrShort)
	wantFault(t, "a byte", "\x01", api.ErrShort)
}

// P20.3: items of other kinds are no message.
func TestOtherItems(t *testing.T) {
	x := api.Message{Kind: 2, From: 1, Life: 2, View: 3, N: 4, Sure: 5, Ballot: bal(6, 2), Taken: bal(7, 3), Value: "v", Texts: []string{"t"}}
	s := bytesOf(x)
	wantBytes(t, x, s)
	for name, s := range map[string]string{
		"a word as the Kind":       "\x00\x00\x00\x02" + s[1:],
		"a word as the Life":       s[:2] + "\x00\x00\x00\x02" + s[10:],
		"a byte behind the texts":  s + "\x01",
		"a long behind the texts":  s + longOf(7),
		"a long behind the Value":  s[:len(s)-5] + longOf(7),
		"a text ahead":             textOf("x") + s,
		"an acceptor":              accepted(bal(2, 1), bal(2, 1), "value"),
		"a message as a text":      textOf(s),
		"two bytes ahead":          "\x00\x00" + s,
		"without a Kind":           s[1:],
		"without Taken":            s[:43] + s[52:],
		"a Value as another order": s[:34] + textOf("v") + s[34:],
	} {
		_, want := codec.Decode("bblllllblbt*t", s)
		if want == api.OK {
			want = api.ErrForm
		}
		wantFault(t, name, s, want)
	}
	wantFault(t, "a byte behind the texts", s+"\x01", api.ErrShort)
}

// P1, P20.3: bytes of all kinds: none has a message but its own one.
func FuzzDecode(f *testing.F) {
	for _, x := range rightMessages() {
		if s := bytesOf(x); len(s) < 1000 {
			f.Add(s)
		}
	}
	f.Add("")
	f.Add(times("\x00", 100))
	f.Fuzz(func(t *testing.T, s string) {
		x, e := node.Decode(s)
		if e == api.OK {
			if !plainRight(x) || bytesOf(x) != s {
				t.Errorf("%q: %s", s, shownMessage(x))
			}
			wantBytes(t, x, s)
			return
		}
		if !sameMessage(x, api.Message{}) || e != api.ErrShort && e != api.ErrLong && e != api.ErrForm {
			t.Errorf("%q: %s, %d", s, shownMessage(x), e)
		}
	})
}
