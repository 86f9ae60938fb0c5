package view_test

import (
	"slices"
	"strings"
	"testing"

	"carillon/api"
	"carillon/codec"
	"carillon/view"
)

func wantEncode(t *testing.T, v api.View, want string, fault api.Errno) {
	t.Helper()
	if s, e := view.Encode(v); s != want || e != fault {
		t.Errorf("Encode(%s): %x, %d; want %x, %d", shown(v), s, e, want, fault)
	}
}

func wantDecode(t *testing.T, name, s string, want api.View, fault api.Errno) {
	t.Helper()
	if v, e := view.Decode(s); !same(v, want) || e != fault {
		t.Errorf("%s: Decode(%.60x, of %d bytes): %s, %d; want %s, %d", name, s, len(s), shown(v), e, shown(want), fault)
	}
}

// P12.3: the bytes of a view.
func TestBytes(t *testing.T) {
	v := of(0x0102030405, m(0, 258), m(6, great))
	s := "\x00\x00\x00\x01\x02\x03\x04\x05" + "\x00" + "\x00\x00\x00\x00\x00\x00\x01\x02" + "\x06" + "\x00\x1f\xff\xff\xff\xff\xff\xff"
	wantEncode(t, v, s, api.OK)
	wantDecode(t, "bytes", s, v, api.OK)
}

// P12.3, T6: what is right goes there and back.
func TestThereAndBack(t *testing.T) {
	for _, v := range rightViews() {
		wantEncode(t, v, plainCode(v), api.OK)
		wantDecode(t, "back", plainCode(v), v, api.OK)
	}
}

// P12.3: what is not right is refused, in each of its parts, there and back.
func TestNotRight(t *testing.T) {
	for _, v := range wrongViews() {
		wantEncode(t, v, "", api.ErrArg)
		coded := !slices.ContainsFunc(v.Members, func(x api.Member) bool { return x.Node < 0 || x.Node > 255 })
		if coded && len(v.Members) < 500 { // others have no code
			wantDecode(t, "not right", plainCode(v), api.View{}, api.ErrForm)
		}
	}
}

// P12.3: a long of a Number and of a Life, and a byte of a Node, that is past all right ones, at each member.
func TestNumbersPastTheEnd(t *testing.T) {
	code := func(number uint64, members ...uint64) string {
		l := []api.Item{{Kind: api.ILong, N: number}}
		for i, n := range members {
			l = append(l, api.Item{Kind: []int{api.IByte, api.ILong}[i%2], N: n})
		}
		s, e := codec.Encode(l)
		if e != api.OK {
			t.Fatal(e)
		}
		return s
	}
	wantDecode(t, "the greatest", code(great, 0, great, 6, great), of(great, m(0, great), m(6, great)), api.OK)
	for _, n := range []uint64{0, 1 << 53, 1<<53 + 1, 1 << 62, 1<<63 - 1, 1 << 63, 1<<63 + 1, 1<<64 - 1} {
		wantDecode(t, "Number", code(n, 0, 1, 1, 1), api.View{}, api.ErrForm)
		wantDecode(t, "the first Life", code(1, 0, n, 1, 1), api.View{}, api.ErrForm)
		wantDecode(t, "the last Life", code(1, 0, 1, 1, n), api.View{}, api.ErrForm)
		wantDecode(t, "all of them", code(n, 0, n, 1, n), api.View{}, api.ErrForm)
	}
	for node := uint64(api.MaxNodes); node < 256; node++ {
		wantDecode(t, "the only Node", code(1, node, 1), api.View{}, api.ErrForm)
		wantDecode(t, "the first Node", code(1, node, 1, 1, 1), api.View{}, api.ErrForm)
		wantDecode(t, "the last Node", code(1, 0, 1, node, 1), api.View{}, api.ErrForm)
	}
}

// P12.3: a beginning is too short, but where a member ends: there it is a view of fewer members, or of none, which is not right.
func TestBeginnings(t *testing.T) {
	v := of(3, subset(1<<api.MaxNodes-1, always(2))...)
	s := plainCode(v)
	for n := range len(s) {
		switch {
		case n == 8:
			wantDecode(t, "no members", s[:n], api.View{}, api.ErrForm)
		case n > 8 && n%9 == 8:
			wantDecode(t, "fewer members", s[:n], of(3, v.Members[:n/9]...), api.OK)
		default:
			wantDecode(t, "a beginning", s[:n], api.View{}, api.ErrShort)
		}
	}
	wantDecode(t, "nothing", "", api.View{}, api.ErrShort)
}

// P12.3: what stands behind a view begins a member: it is too short, or a member more, that must be right and rise.
func TestMore(t *testing.T) {
	s := plainCode(of(3, m(0, 2), m(1, 2)))
	for n := 1; n < 9; n++ {
		wantDecode(t, "a member that ends", s+strings.Repeat("\x02", n), api.View{}, api.ErrShort)
	}
	long := strings.Repeat("\x00", 7) + "\x05"
	wantDecode(t, "one more", s+"\x02"+long, of(3, m(0, 2), m(1, 2), m(2, 5)), api.OK)
	for _, node := range []string{"\x00", "\x01", "\x07", "\xff"} {
		wantDecode(t, "one that is not right", s+node+long, api.View{}, api.ErrForm)
	}
	all := plainCode(of(3, subset(1<<api.MaxNodes-1, always(2))...))
	wantDecode(t, "a byte behind all nodes", all+"\x07", api.View{}, api.ErrShort)
	wantDecode(t, "one more than all nodes", all+"\x07"+long, api.View{}, api.ErrForm)
}

// P12.3: codec.Decode's errors are told first, also of a view that is not right, and of one that is too long for a code.
func TestErrorsOfTheCode(t *testing.T) {
	for _, number := range []int{0, 1, -1} {
		head := plainCode(of(number))
		member := "\x09" + strings.Repeat("\xff", 8)
		wantDecode(t, "a member that ends", head+member[:8], api.View{}, api.ErrShort)
		wantDecode(t, "the second member ends", head+member+member[:1], api.View{}, api.ErrShort)
		most := head + strings.Repeat(member, 499)
		wantDecode(t, "999 items", most, api.View{}, api.ErrForm)
		wantDecode(t, "1000 items, and a part of one", most+member[:4], api.View{}, api.ErrLong)
		wantDecode(t, "1001 items", most+member, api.View{}, api.ErrLong)
	}
}

// P12.3: codes of other shapes.
func TestOtherShapes(t *testing.T) {
	for _, c := range []struct {
		name, s string
		fault   api.Errno
	}{
		{"a byte", "\x01", api.ErrShort},
		{"a word", "\x00\x00\x00\x01", api.ErrShort},
		{"a word, and a member", "\x00\x00\x00\x01" + plainCode(of(1, m(0, 1)))[8:], api.ErrShort},
		{"two longs", plainCode(of(1)) + plainCode(of(1)), api.ErrShort},
		{"three longs", plainCode(of(1)) + plainCode(of(1)) + plainCode(of(1)), api.ErrShort},
		{"members alone", plainCode(of(1, m(0, 1), m(1, 1)))[8:], api.ErrShort},
		{"a text", "\x00\x00\x00\x03abc", api.ErrShort},
		{"a text of the bytes of a view", "\x00\x00\x00\x11" + plainCode(of(1, m(0, 1))), api.ErrShort},
		{"the Life ahead of the Node", plainCode(of(1)) + "\x00\x1f\xff\xff\xff\xff\xff\xff" + "\x06", api.ErrForm},
		{"letters", "the quick brown f", api.ErrForm},
	} {
		wantDecode(t, c.name, c.s, api.View{}, c.fault)
	}
}
