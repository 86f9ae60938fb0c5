package crc_test

import (
	"math"
	"slices"
	"strings"
	"testing"

	"carillon/api"
	"carillon/crc"
)

// bitByBit goes on from what there is as the chapter tells it, a bit at a time.
func bitByBit(bits uint32, s string) uint32 {
	for i := range len(s) {
		for at := range 8 {
			differ := uint32(s[i])>>at&1 != bits&1
			bits >>= 1
			if differ {
				bits ^= 0x82F63B78
			}
		}
	}
	return bits
}

func plainSum(s string) uint32 { return ^bitByBit(math.MaxUint32, s) }

// big is n as four bytes, the greatest first.
func big(n uint32) string {
	return string([]byte{byte(n >> 24), byte(n >> 16), byte(n >> 8), byte(n)})
}

// plainFrame is the frame of a body as the chapter tells it, whatever its length.
func plainFrame(body string) string {
	length := big(uint32(len(body)))
	return length + big(plainSum(length+body)) + body
}

// brief keeps a failure's lines short.
func brief(s string) string {
	if len(s) > 60 {
		return s[:60] + ".."
	}
	return s
}

func wantFrame(t *testing.T, body, want string, fault api.Errno) {
	t.Helper()
	if s, e := crc.Frame(body); s != want || e != fault {
		t.Errorf("Frame of %d bytes %q: %d bytes %q, %d; want %d bytes %q, %d", len(body), brief(body), len(s), brief(s), e, len(want), brief(want), fault)
	}
}

func wantTake(t *testing.T, s, want string, size int, fault api.Errno) {
	t.Helper()
	if body, n, e := crc.Take(s); body != want || n != size || e != fault {
		t.Errorf("Take of %d bytes %q: %d bytes %q, %d, %d; want %d bytes %q, %d, %d", len(s), brief(s), len(body), brief(body), n, e, len(want), brief(want), size, fault)
	}
}

func wantAll(t *testing.T, s string, want []string, used int, fault api.Errno) {
	t.Helper()
	if bodies, n, e := crc.All(s); !slices.Equal(bodies, want) || n != used || e != fault {
		t.Errorf("All of %d bytes %q: %d bodies, %d, %d; want %d bodies, %d, %d", len(s), brief(s), len(bodies), n, e, len(want), used, fault)
	}
}

// texts are some of many lengths and bytes, without a random source.
func texts() []string {
	out := []string{"", "a", "123456789", "\x00", "\xff", "\x00\x00\x00\x00", "\xff\xff\xff\xff", strings.Repeat("\x00", 32), strings.Repeat("\xff", 32)}
	state := uint32(1)
	for length := range 70 {
		b := make([]byte, length)
		for i := range b {
			state = state*1664525 + 1013904223
			b[i] = byte(state >> 24)
		}
		out = append(out, string(b))
	}
	return out
}

// P2.1: sums that are known of old.
func TestSum(t *testing.T) {
	rising := make([]byte, 32)
	falling := make([]byte, 32)
	for i := range 32 {
		rising[i], falling[i] = byte(i), byte(31-i)
	}
	for _, c := range []struct {
		s    string
		want uint32
	}{
		{"", 0},
		{"123456789", 0xE3069283},
		{"a", 0xC1D04330},
		{strings.Repeat("\x00", 32), 0x8A9136AA},
		{strings.Repeat("\xff", 32), 0x62A8AB43},
		{string(rising), 0x46DD794E},
		{string(falling), 0x113FDB5C},
	} {
		if got := crc.Sum(c.s); got != c.want {
			t.Errorf("Sum(%q): %08X; want %08X", c.s, got, c.want)
		}
	}
}

// P2.1: each byte alone and behind another, and texts of many lengths, as they are a bit at a time.
func TestSumBitByBit(t *testing.T) {
	all := texts()
	for n := range 256 {
		all = append(all, string([]byte{byte(n)}), string([]byte{'x', byte(n)}))
	}
	for _, s := range all {
		if got, want := crc.Sum(s), plainSum(s); got != want {
			t.Errorf("Sum(%q): %08X; want %08X", s, got, want)
		}
	}
}

// P2.1: More of a beginning and the rest, wherever a text is cut.
func TestMore(t *testing.T) {
	for _, s := range texts() {
		for at := 0; at <= len(s); at++ {
			if got, want := crc.More(plainSum(s[:at]), s[at:]), plainSum(s); got != want {
				t.Errorf("More(Sum(%q), %q): %08X; want %08X", s[:at], s[at:], got, want)
			}
		}
	}
}

// P2.1: every number is the sum of some text, so More goes on from each.
func TestMoreOfAnyNumber(t *testing.T) {
	for _, sum := range []uint32{0, 1, 0x80000000, math.MaxUint32, 0x82F63B78, 0xE3069283, 0x12345678} {
		if got := crc.More(sum, ""); got != sum {
			t.Errorf("More(%08X, nothing): %08X", sum, got)
		}
		for _, s := range []string{"\x00", "\xff", "ab", "123456789"} {
			if got, want := crc.More(sum, s), ^bitByBit(^sum, s); got != want {
				t.Errorf("More(%08X, %q): %08X; want %08X", sum, s, got, want)
			}
		}
	}
}

// P2.2: the bytes of a frame.
func TestFrame(t *testing.T) {
	nothing := "\x00\x00\x00\x00"
	wantFrame(t, "", nothing+big(crc.Sum(nothing)), api.OK)
	wantFrame(t, "", "\x00\x00\x00\x00\x48\x67\x4b\xc7", api.OK)
	two := "\x00\x00\x00\x02ab"
	wantFrame(t, "ab", two[:4]+big(crc.Sum(two))+"ab", api.OK)
	for _, body := range texts() {
		wantFrame(t, body, plainFrame(body), api.OK)
	}
	for _, length := range []int{255, 256, 257, 65535, 65536, 65537} {
		body := strings.Repeat("\xc3", length)
		wantFrame(t, body, plainFrame(body), api.OK)
	}
}

// P2.2: the limit, at the edge and one beyond.
func TestFrameLimit(t *testing.T) {
	full := strings.Repeat("f", api.MaxFrame)
	frame := plainFrame(full)
	if frame[:4] != "\x00\x06\x1a\x80" {
		t.Fatalf("%q", frame[:4])
	}
	wantFrame(t, full, frame, api.OK)
	wantFrame(t, full+"f", "", api.ErrLong)
	wantFrame(t, full+full, "", api.ErrLong)
	wantTake(t, frame, full, api.MaxFrame+8, api.OK)
	wantTake(t, frame+"x", full, api.MaxFrame+8, api.OK)
	wantTake(t, frame[:len(frame)-1], "", 0, api.ErrShort)
	wantTake(t, plainFrame(full+"f"), "", 0, api.ErrLong)
	wantAll(t, frame+frame, []string{full, full}, 2*len(frame), api.OK)
	wantAll(t, frame+plainFrame(full+"f"), []string{full}, len(frame), api.ErrLong)
}

// P2.2: the frame with which a text begins, whatever stands behind it.
func TestTake(t *testing.T) {
	for _, body := range texts() {
		frame := plainFrame(body)
		for _, behind := range []string{"", "x", "\x00", "\xff\xff\xff\xff", frame} {
			wantTake(t, frame+behind, body, len(body)+8, api.OK)
		}
	}
}

// P2.2: what is no frame, and which error is told first.
func TestTakeFaults(t *testing.T) {
	empty, ab := plainFrame(""), plainFrame("ab")
	for _, c := range []struct {
		name, s string
		fault   api.Errno
	}{
		{"nothing", "", api.ErrShort},
		{"a byte", "\x00", api.ErrShort},
		{"three bytes", "abc", api.ErrShort},
		{"three bytes of a length beyond the limit", "\xff\xff\xff", api.ErrShort},
		{"four bytes of no length", "\x00\x00\x00\x00", api.ErrShort},
		{"a length at the limit, without a body", "\x00\x06\x1a\x80", api.ErrShort},
		{"a length one beyond it, without a body", "\x00\x06\x1a\x81", api.ErrLong},
		{"a length at the limit, and a wrong sum, without a body", "\x00\x06\x1a\x80\x00\x00\x00\x00", api.ErrShort},
		{"a length one beyond it, and a wrong sum, without a body", "\x00\x06\x1a\x81\x00\x00\x00\x00", api.ErrLong},
		{"the greatest length", "\xff\xff\xff\xff", api.ErrLong},
		{"a length below nought, if it had a sign", "\x80\x00\x00\x00", api.ErrLong},
		{"a length and a part of the sum", empty[:7], api.ErrShort},
		{"all but the body", ab[:8], api.ErrShort},
		{"all but a byte", ab[:9], api.ErrShort},
		{"all but a byte, and a wrong sum", ab[:4] + "\x00\x00\x00\x00a", api.ErrShort},
		{"another body", ab[:9] + "c", api.ErrSum},
		{"another body, and more behind it", ab[:9] + "cd", api.ErrSum},
		{"another sum", ab[:4] + "\x00\x00\x00\x00ab", api.ErrSum},
		{"no body, another sum", "\x00\x00\x00\x00\x00\x00\x00\x00", api.ErrSum},
		{"the sum of the body alone", ab[:4] + big(plainSum("ab")) + "ab", api.ErrSum},
		{"the sum with its bytes the other way", ab[:4] + ab[7:8] + ab[6:7] + ab[5:6] + ab[4:5] + "ab", api.ErrSum},
		{"the length with its bytes the other way", "\x02\x00\x00\x00" + ab[4:], api.ErrLong},
		{"a shorter length", "\x00\x00\x00\x01" + ab[4:], api.ErrSum},
		{"a longer length", "\x00\x00\x00\x03" + ab[4:], api.ErrShort},
	} {
		if body, size, e := crc.Take(c.s); body != "" || size != 0 || e != c.fault {
			t.Errorf("%s: %q, %d, %d; want %d", c.name, body, size, e, c.fault)
		}
		// A frame ahead of it is told beside the error; nothing left over is none.
		fault := c.fault
		if c.s == "" {
			fault = api.OK
		}
		wantAll(t, c.s, nil, 0, fault)
		wantAll(t, ab+empty+c.s, []string{"ab", ""}, 18, fault)
	}
}

// P2.3: frames one behind the other.
func TestAll(t *testing.T) {
	empty, ab := plainFrame(""), plainFrame("ab")
	wantAll(t, "", nil, 0, api.OK)
	wantAll(t, empty, []string{""}, 8, api.OK)
	wantAll(t, ab, []string{"ab"}, 10, api.OK)
	wantAll(t, empty+ab+empty, []string{"", "ab", ""}, 26, api.OK)
	wantAll(t, strings.Repeat(empty, 5000), make([]string, 5000), 40000, api.OK)
	wantAll(t, plainFrame(ab+empty), []string{ab + empty}, 26, api.OK)
}

// P2.3: what is behind the first that is none is not told, whether or not it is a frame.
func TestAllEndsAtTheFirstThatIsNone(t *testing.T) {
	a, b := plainFrame("a"), plainFrame("b")
	wantAll(t, a+"\x00\x00\x00\x01\x00\x00\x00\x00x"+b, []string{"a"}, 9, api.ErrSum)
	wantAll(t, a+"\xff\xff\xff\xff"+b, []string{"a"}, 9, api.ErrLong)
	wantAll(t, "\x00\x00\x00\x00\x00\x00\x00\x00"+a+b, nil, 0, api.ErrSum)
	wantAll(t, a+b+"\x00\x00\x00", []string{"a", "b"}, 18, api.ErrShort)
	wantAll(t, a+"\x00\x06\x1a\x80"+b, []string{"a"}, 9, api.ErrShort)
}
