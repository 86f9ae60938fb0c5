package link_test

import (
	"strings"
	"testing"

	"carillon/api"
	"carillon/codec"
	"carillon/crc"
	"carillon/link"
)

func wantDecode(t *testing.T, name, s string, want api.Frame, fault api.Errno) {
	t.Helper()
	if f, e := link.Decode(s); f != want || e != fault {
		t.Errorf("%s: Decode: %s, %d; want %s, %d", name, shown(f), e, shown(want), fault)
	}
}

// framed is a body as a frame with its sum.
func framed(t *testing.T, body string) string {
	t.Helper()
	s, e := crc.Frame(body)
	if e != api.OK {
		t.Fatal(e)
	}
	return s
}

// coded are items as the body of a frame with its sum.
func coded(t *testing.T, l ...api.Item) string {
	t.Helper()
	s, e := codec.Encode(l)
	if e != api.OK {
		t.Fatal(e)
	}
	return framed(t, s)
}

func long(n int) api.Item    { return api.Item{Kind: api.ILong, N: uint64(n)} }
func text(s string) api.Item { return api.Item{Kind: api.IText, S: s} }

// P9.4: the bytes of a frame: its length and its sum, four longs, a text.
func TestBytes(t *testing.T) {
	f := api.Frame{Epoch: 0x0102030405, Peer: 2, Seq: 3, Ack: 4, Body: "ab"}
	body := "\x00\x00\x00\x01\x02\x03\x04\x05" + "\x00\x00\x00\x00\x00\x00\x00\x02" + "\x00\x00\x00\x00\x00\x00\x00\x03" + "\x00\x00\x00\x00\x00\x00\x00\x04" + "\x00\x00\x00\x02ab"
	s, e := link.Encode(f)
	if e != api.OK || s != framed(t, body) {
		t.Errorf("Encode: %q, %d", s, e)
	}
	if want := "\x00\x00\x00\x26"; s[:4] != want || s[8:] != body {
		t.Errorf("Encode: %q", s)
	}
}

// P9.4, T6: what is right goes there and back.
func TestThereAndBack(t *testing.T) {
	for _, f := range right() {
		s, e := link.Encode(f)
		if want := coded(t, long(f.Epoch), long(f.Peer), long(f.Seq), long(f.Ack), text(f.Body)); s != want || e != api.OK {
			t.Errorf("Encode(%s): %d bytes, %d; want %d", shown(f), len(s), e, len(want))
		}
		wantDecode(t, "back", s, f, api.OK)
	}
}

// P9.4: what is not right is refused, in each field, there and back.
func TestWrongFrames(t *testing.T) {
	for _, f := range wrong() {
		if s, e := link.Encode(f); s != "" || e != api.ErrArg {
			t.Errorf("Encode(%s): %d bytes, %d", shown(f), len(s), e)
		}
		if len(f.Body) <= api.MaxText { // no code has a longer one
			wantDecode(t, shown(f), coded(t, long(f.Epoch), long(f.Peer), long(f.Seq), long(f.Ack), text(f.Body)), api.Frame{}, api.ErrForm)
		}
	}
}

// P9.4: each beginning is too short, and anything longer has bytes left over.
func TestBeginningsAndMore(t *testing.T) {
	s, _ := link.Encode(put(3, 2, "abc"))
	for n := range len(s) {
		wantDecode(t, "a beginning", s[:n], api.Frame{}, api.ErrShort)
	}
	for _, more := range []string{"\x00", "x", s, s[:4], strings.Repeat("\xff", 9)} {
		wantDecode(t, "more", s+more, api.Frame{}, api.ErrForm)
	}
}

// P9.4: the errors of a frame with a sum; they are told ahead of bytes that are left over.
func TestErrorsOfTheSum(t *testing.T) {
	s, _ := link.Encode(put(3, 2, "abc"))
	spoilt := s[:len(s)-1] + "d"
	for _, c := range []struct {
		name, s string
		fault   api.Errno
	}{
		{"nothing", "", api.ErrShort},
		{"three bytes", "\xff\xff\xff", api.ErrShort},
		{"a length of one too many", "\x00\x06\x1a\x81", api.ErrLong},
		{"a length of MaxFrame", "\x00\x06\x1a\x80", api.ErrShort},
		{"the greatest length", "\xff\xff\xff\xff" + s[4:], api.ErrLong},
		{"another body", spoilt, api.ErrSum},
		{"another body and more", spoilt + "x", api.ErrSum},
		{"another sum", s[:4] + "\x00\x00\x00\x00" + s[8:], api.ErrSum},
		{"noughts", strings.Repeat("\x00", 8), api.ErrSum},
	} {
		wantDecode(t, c.name, c.s, api.Frame{}, c.fault)
	}
	for bit := 32; bit < 8*len(s); bit++ {
		b := []byte(s)
		b[bit/8] ^= 1 << (bit % 8)
		wantDecode(t, "a bit turned", string(b), api.Frame{}, api.ErrSum)
	}
}

// P9.4: bodies that are no such code.
func TestNoSuchCode(t *testing.T) {
	right := []api.Item{long(1), long(2), long(3), long(4), text("ab")}
	wantDecode(t, "right", coded(t, right...), api.Frame{Epoch: 1, Peer: 2, Seq: 3, Ack: 4, Body: "ab"}, api.OK)
	for name, s := range map[string]string{
		"nothing":            framed(t, ""),
		"a byte":             framed(t, "a"),
		"no text":            coded(t, right[:4]...),
		"three longs":        coded(t, long(1), long(2), long(3), text("")),
		"five longs":         coded(t, long(1), long(2), long(3), long(4), long(5), text("")),
		"two texts":          coded(t, append(right[:5:5], text(""))...),
		"a byte too many":    coded(t, append(right[:5:5], api.Item{Kind: api.IByte})...),
		"words":              coded(t, api.Item{Kind: api.IWord, N: 1}, api.Item{Kind: api.IWord, N: 1}, long(1), long(1), text("")),
		"a text that ends":   framed(t, strings.Repeat("\x00\x00\x00\x00\x00\x00\x00\x01", 4)+"\x00\x00\x00\x02a"),
		"a text of too much": framed(t, strings.Repeat("\x00\x00\x00\x00\x00\x00\x00\x01", 4)+"\x00\x01\x86\xa1"+strings.Repeat("x", api.MaxText+1)),
		"a number of 2^63":   coded(t, long(1), api.Item{Kind: api.ILong, N: 1 << 63}, long(3), long(4), text("")),
		"the greatest":       coded(t, long(1), long(2), long(3), api.Item{Kind: api.ILong, N: 1<<64 - 1}, text("")),
		"a frame within":     framed(t, coded(t, right...)),
	} {
		wantDecode(t, name, s, api.Frame{}, api.ErrForm)
	}
}
