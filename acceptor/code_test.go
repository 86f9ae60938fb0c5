package acceptor_test

import (
	"strings"
	"testing"

	"carillon/acceptor"
	"carillon/api"
	"carillon/codec"
)

func wantEncode(t *testing.T, a api.Acceptor, want string, fault api.Errno) {
	t.Helper()
	if s, e := acceptor.Encode(a); s != want || e != fault {
		t.Errorf("Encode(%s): %s, %d; want %s, %d", shown(a), brief(s), e, brief(want), fault)
	}
}

func wantDecode(t *testing.T, name, s string, want api.Acceptor, fault api.Errno) {
	t.Helper()
	if a, e := acceptor.Decode(s); a != want || e != fault {
		t.Errorf("%s: Decode(%s): %s, %d; want %s, %d", name, brief(s), shown(a), e, shown(want), fault)
	}
}

// P10.3: the bytes of an acceptor.
func TestBytes(t *testing.T) {
	a := acc(bal(0x0102030405, 6), bal(258, 3), "ab")
	s := "\x00\x00\x00\x01\x02\x03\x04\x05" + "\x06" + "\x00\x00\x00\x00\x00\x00\x01\x02" + "\x03" + "\x00\x00\x00\x02ab"
	wantEncode(t, a, s, api.OK)
	wantDecode(t, "bytes", s, a, api.OK)
	noughts := strings.Repeat("\x00", 22)
	wantEncode(t, api.Acceptor{}, noughts, api.OK)
	wantDecode(t, "none of all", noughts, api.Acceptor{}, api.OK)
}

// P10.3, T6: what is right goes there and back.
func TestThereAndBack(t *testing.T) {
	for _, a := range right() {
		wantEncode(t, a, plainCode(a), api.OK)
		wantDecode(t, "back", plainCode(a), a, api.OK)
	}
}

// P10.3: what is not right is refused, in each of its parts, there and back.
func TestNotRight(t *testing.T) {
	for _, a := range wrong() {
		wantEncode(t, a, "", api.ErrArg)
		if len(a.Value) <= api.MaxText && isByte(a.Promised.Node) && isByte(a.Taken.Node) { // others have no code
			wantDecode(t, "not right", plainCode(a), api.Acceptor{}, api.ErrForm)
		}
	}
}

func isByte(n int) bool { return 0 <= n && n < 256 }

// P10.3: a byte of a Node, and a long of a Round, that is past all right ones, in both ballots.
func TestNumbersPastTheEnd(t *testing.T) {
	items := func(rounds [2]uint64, nodes [2]uint64) string {
		s, e := codec.Encode([]api.Item{{Kind: api.ILong, N: rounds[0]}, {Kind: api.IByte, N: nodes[0]}, {Kind: api.ILong, N: rounds[1]}, {Kind: api.IByte, N: nodes[1]}, {Kind: api.IText}})
		if e != api.OK {
			t.Fatal(e)
		}
		return s
	}
	wantDecode(t, "the greatest", items([2]uint64{great, great}, [2]uint64{6, 6}), acc(bal(great, 6), bal(great, 6), ""), api.OK)
	for _, round := range []uint64{1 << 53, 1<<53 + 1, 1 << 62, 1<<63 - 1, 1 << 63, 1<<63 + 1, 1<<64 - 1} {
		wantDecode(t, "Promised's Round", items([2]uint64{round, 1}, [2]uint64{0, 0}), api.Acceptor{}, api.ErrForm)
		wantDecode(t, "Promised's Round, none taken", items([2]uint64{round, 0}, [2]uint64{0, 0}), api.Acceptor{}, api.ErrForm)
		wantDecode(t, "Taken's Round", items([2]uint64{great, round}, [2]uint64{0, 0}), api.Acceptor{}, api.ErrForm)
		wantDecode(t, "both Rounds", items([2]uint64{round, round}, [2]uint64{0, 0}), api.Acceptor{}, api.ErrForm)
	}
	for node := uint64(api.MaxNodes); node < 256; node++ {
		wantDecode(t, "Promised's Node", items([2]uint64{2, 1}, [2]uint64{node, 0}), api.Acceptor{}, api.ErrForm)
		wantDecode(t, "Taken's Node", items([2]uint64{2, 1}, [2]uint64{0, node}), api.Acceptor{}, api.ErrForm)
		wantDecode(t, "both Nodes", items([2]uint64{2, 2}, [2]uint64{node, node}), api.Acceptor{}, api.ErrForm)
	}
	for node := uint64(1); node < 256; node++ {
		wantDecode(t, "Promised's Node of a Round of 0", items([2]uint64{0, 0}, [2]uint64{node, 0}), api.Acceptor{}, api.ErrForm)
		wantDecode(t, "Taken's Node of a Round of 0", items([2]uint64{2, 0}, [2]uint64{0, node}), api.Acceptor{}, api.ErrForm)
	}
}

// P10.3: each beginning is too short, and anything longer has bytes left over.
func TestBeginningsAndMore(t *testing.T) {
	for _, a := range []api.Acceptor{{}, acc(bal(2, 1), bal(0, 0), ""), acc(bal(2, 1), bal(1, 5), "abc")} {
		s := plainCode(a)
		for n := range len(s) {
			wantDecode(t, "a beginning", s[:n], api.Acceptor{}, api.ErrShort)
		}
		for _, more := range []string{"\x00", "x", "\xff", s, s[:4], strings.Repeat("\x00", 8)} {
			wantDecode(t, "more", s+more, api.Acceptor{}, api.ErrForm)
		}
	}
}

// P10.3: codec.Decode's errors are told first, also of an acceptor that is not right.
func TestErrorsOfTheCode(t *testing.T) {
	head := plainCode(acc(bal(2, 1), bal(1, 5), ""))[:18]
	bad := plainCode(acc(bal(1, 5), bal(2, 9), ""))[:18]
	for _, begin := range []string{head, bad} {
		for _, c := range []struct {
			name, s string
			fault   api.Errno
		}{
			{"no text", "", api.ErrShort},
			{"no length", "\xff\xff\xff", api.ErrShort},
			{"a text that ends", "\x00\x00\x00\x02a", api.ErrShort},
			{"a text of MaxText that ends", "\x00\x01\x86\xa0" + full[1:], api.ErrShort},
			{"a text of one more", "\x00\x01\x86\xa1" + long, api.ErrLong},
			{"a length of one more", "\x00\x01\x86\xa1", api.ErrLong},
			{"the greatest length", "\xff\xff\xff\xff", api.ErrLong},
			{"a byte left over", "\x00\x00\x00\x01ab", api.ErrForm},
			{"another text", "\x00\x00\x00\x01a\x00\x00\x00\x00", api.ErrForm},
		} {
			wantDecode(t, c.name, begin+c.s, api.Acceptor{}, c.fault)
		}
	}
	wantDecode(t, "nothing", "", api.Acceptor{}, api.ErrShort)
	wantDecode(t, "a text of MaxText", head+"\x00\x01\x86\xa0"+full, acc(bal(2, 1), bal(1, 5), full), api.OK)
}
