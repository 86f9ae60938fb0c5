package codec_test

import (
	"math"
	"regexp"
	"slices"
	"strings"
	"testing"

	"carillon/api"
	"carillon/codec"
)

func oneByte(n uint64) api.Item      { return api.Item{Kind: api.IByte, N: n} }
func word(n uint64) api.Item         { return api.Item{Kind: api.IWord, N: n} }
func long(n uint64) api.Item         { return api.Item{Kind: api.ILong, N: n} }
func text(s string) api.Item         { return api.Item{Kind: api.IText, S: s} }
func items(l ...api.Item) []api.Item { return l }

// many is a list of n times the item.
func many(x api.Item, n int) []api.Item { return slices.Repeat(items(x), n) }

// brief keeps a failure's lines short.
func brief(s string) string {
	if len(s) > 60 {
		return s[:60] + ".."
	}
	return s
}

func wantEncode(t *testing.T, name string, l []api.Item, want string, fault api.Errno) {
	t.Helper()
	s, e := codec.Encode(l)
	if s != want || e != fault {
		t.Errorf("%s: Encode: %d bytes %q, %d; want %d bytes %q, %d", name, len(s), brief(s), e, len(want), brief(want), fault)
	}
}

func wantDecode(t *testing.T, shape, s string, want []api.Item, fault api.Errno) {
	t.Helper()
	l, e := codec.Decode(shape, s)
	if !slices.Equal(l, want) || e != fault {
		t.Errorf("Decode(%q, %q): %d items, %d; want %d items, %d", brief(shape), brief(s), len(l), e, len(want), fault)
	}
}

// P1.1: the bytes of each kind, the greatest first.
func TestEncodeBytes(t *testing.T) {
	for _, c := range []struct {
		name string
		l    []api.Item
		want string
	}{
		{"nothing, nil", nil, ""},
		{"nothing, empty", items(), ""},
		{"the chapter's example", items(oneByte(1), word(258), text("ab")), "\x01\x00\x00\x01\x02\x00\x00\x00\x02ab"},
		{"byte 0", items(oneByte(0)), "\x00"},
		{"byte 255", items(oneByte(255)), "\xff"},
		{"word 0", items(word(0)), "\x00\x00\x00\x00"},
		{"word of four bytes", items(word(0x01020304)), "\x01\x02\x03\x04"},
		{"greatest word", items(word(math.MaxUint32)), "\xff\xff\xff\xff"},
		{"long 0", items(long(0)), "\x00\x00\x00\x00\x00\x00\x00\x00"},
		{"long of eight bytes", items(long(0x0102030405060708)), "\x01\x02\x03\x04\x05\x06\x07\x08"},
		{"greatest long", items(long(math.MaxUint64)), "\xff\xff\xff\xff\xff\xff\xff\xff"},
		{"empty text", items(text("")), "\x00\x00\x00\x00"},
		{"text of bytes that are no runes", items(text("\x00\xff\xfe")), "\x00\x00\x00\x03\x00\xff\xfe"},
		{"texts and numbers by turns", items(text("a"), oneByte(2), text(""), word(3)), "\x00\x00\x00\x01a\x02\x00\x00\x00\x00\x00\x00\x00\x03"},
	} {
		wantEncode(t, c.name, c.l, c.want, api.OK)
	}
}

// P1.1: the limits, at the edge and one beyond.
func TestEncodeLimits(t *testing.T) {
	full := strings.Repeat("a", api.MaxText)
	wantEncode(t, "text of MaxText", items(text(full)), "\x00\x01\x86\xa0"+full, api.OK)
	wantEncode(t, "text of one more", items(text(full+"a")), "", api.ErrLong)
	wantEncode(t, "MaxItems items", many(oneByte('x'), api.MaxItems), strings.Repeat("x", api.MaxItems), api.OK)
	wantEncode(t, "one item more", many(oneByte('x'), api.MaxItems+1), "", api.ErrLong)
	wantEncode(t, "MaxItems empty texts", many(text(""), api.MaxItems), strings.Repeat("\x00", 4*api.MaxItems), api.OK)
}

// P1.1: wrong items, each alone.
func TestEncodeWrongItems(t *testing.T) {
	for _, x := range []api.Item{
		{},
		{Kind: 0, N: 1},
		{Kind: 5},
		{Kind: -1},
		{Kind: math.MaxInt},
		{Kind: math.MinInt},
		{Kind: 256 + api.IByte},
		oneByte(256),
		oneByte(math.MaxUint64),
		oneByte(1 << 32),
		word(1 << 32),
		word(math.MaxUint64),
		{Kind: api.IByte, S: "a"},
		{Kind: api.IWord, S: "a"},
		{Kind: api.ILong, S: "a"},
		{Kind: api.ILong, N: 1, S: "\x00"},
		{Kind: api.IText, N: 1},
		{Kind: api.IText, N: 1, S: "a"},
		{Kind: api.IText, N: 1 << 63, S: "a"},
	} {
		wantEncode(t, "a wrong item", items(x), "", api.ErrArg)
		wantEncode(t, "a wrong item behind others", items(oneByte(1), text("ab"), x), "", api.ErrArg)
	}
}

// P1.1: which fault is told.
func TestEncodeFirstFault(t *testing.T) {
	tooLong := strings.Repeat("a", api.MaxText+1)
	wrong := api.Item{Kind: 9}
	for _, c := range []struct {
		name  string
		l     []api.Item
		fault api.Errno
	}{
		{"too many, all of them wrong", many(wrong, api.MaxItems+1), api.ErrLong},
		{"just not too many, all of them wrong", many(wrong, api.MaxItems), api.ErrArg},
		{"a wrong item ahead of a long text", items(wrong, text(tooLong)), api.ErrArg},
		{"a long text ahead of a wrong item", items(text(tooLong), wrong), api.ErrLong},
		{"a long text with a number", items(api.Item{Kind: api.IText, N: 1, S: tooLong}), api.ErrArg},
		{"a long text of a byte", items(api.Item{Kind: api.IByte, S: tooLong}), api.ErrArg},
		{"a long text of no kind", items(api.Item{Kind: 7, S: tooLong}), api.ErrArg},
	} {
		wantEncode(t, c.name, c.l, "", c.fault)
	}
}

// P1.1: Shape asks the kinds alone.
func TestShape(t *testing.T) {
	for _, c := range []struct {
		l     []api.Item
		want  string
		fault api.Errno
	}{
		{nil, "", api.OK},
		{items(), "", api.OK},
		{items(oneByte(1), word(2), long(3), text("a")), "bwlt", api.OK},
		{items(text(""), text(""), long(0), oneByte(0), word(0)), "ttlbw", api.OK},
		{items(oneByte(256), api.Item{Kind: api.IWord, S: "a"}, api.Item{Kind: api.IText, N: 1}), "bwt", api.OK},
		{items(text(strings.Repeat("a", api.MaxText+1))), "t", api.OK},
		{many(word(1), api.MaxItems+1), strings.Repeat("w", api.MaxItems+1), api.OK},
		{items(api.Item{}), "", api.ErrArg},
		{items(oneByte(1), api.Item{Kind: 5}), "", api.ErrArg},
		{items(api.Item{Kind: -1}, oneByte(1)), "", api.ErrArg},
		{items(api.Item{Kind: math.MaxInt}), "", api.ErrArg},
		{items(api.Item{Kind: math.MinInt}), "", api.ErrArg},
	} {
		if s, e := codec.Shape(c.l); s != c.want || e != c.fault {
			t.Errorf("Shape of %d items: %q, %d; want %q, %d", len(c.l), brief(s), e, brief(c.want), c.fault)
		}
	}
}

// P1.2: what is a shape and what is none, of all short texts of letters, stars and strangers.
func TestWhatIsAShape(t *testing.T) {
	shape := regexp.MustCompile(`^[bwlt]*(\*[bwlt]+)?$`)
	texts := []string{""}
	for length := 0; length < 4; length++ {
		for _, s := range texts {
			if len(s) != length {
				continue
			}
			for _, c := range []string{"b", "w", "l", "t", "*", "x", "B", "\x00", "\xff", "\n"} {
				texts = append(texts, s+c)
			}
		}
	}
	// A byte too few or too many for each of them must not be told ahead of ErrArg.
	for _, s := range texts {
		for _, bytes := range []string{"", "\x00", strings.Repeat("\x00", 33), strings.Repeat("\xff", 8)} {
			l, e := codec.Decode(s, bytes)
			if (e == api.ErrArg) == shape.MatchString(s) || e != api.OK && len(l) != 0 {
				t.Errorf("Decode(%q, %q): %d items, %d", s, bytes, len(l), e)
			}
		}
	}
	wantDecode(t, strings.Repeat("b", 2000)+"x", "", nil, api.ErrArg)
	wantDecode(t, strings.Repeat("b", 2000)+"*", strings.Repeat("a", 2000), nil, api.ErrArg)
	wantDecode(t, "é", "", nil, api.ErrArg)
}

// P1.2: shapes without a star.
func TestDecode(t *testing.T) {
	for _, c := range []struct {
		shape, s string
		want     []api.Item
		fault    api.Errno
	}{
		{"", "", nil, api.OK},
		{"", "a", nil, api.ErrForm},
		{"b", "\xff", items(oneByte(255)), api.OK},
		{"w", "\x01\x02\x03\x04", items(word(0x01020304)), api.OK},
		{"w", "\xff\xff\xff\xff", items(word(math.MaxUint32)), api.OK},
		{"l", "\x01\x02\x03\x04\x05\x06\x07\x08", items(long(0x0102030405060708)), api.OK},
		{"l", "\xff\xff\xff\xff\xff\xff\xff\xff", items(long(math.MaxUint64)), api.OK},
		{"t", "\x00\x00\x00\x00", items(text("")), api.OK},
		{"t", "\x00\x00\x00\x03\x00\xff\xfe", items(text("\x00\xff\xfe")), api.OK},
		{"tbt", "\x00\x00\x00\x01a\x07\x00\x00\x00\x02bc", items(text("a"), oneByte(7), text("bc")), api.OK},
		{"b", "", nil, api.ErrShort},
		{"w", "\x00\x00\x00", nil, api.ErrShort},
		{"l", "\x00\x00\x00\x00\x00\x00\x00", nil, api.ErrShort},
		{"t", "", nil, api.ErrShort},
		{"t", "\x00\x00\x00", nil, api.ErrShort},
		{"t", "\xff\xff\xff", nil, api.ErrShort},
		{"t", "\x00\x00\x00\x01", nil, api.ErrShort},
		{"t", "\x00\x00\x00\x02a", nil, api.ErrShort},
		{"bb", "a", nil, api.ErrShort},
		{"bw", "a\x00\x00", nil, api.ErrShort},
		{"b", "ab", nil, api.ErrForm},
		{"t", "\x00\x00\x00\x01ab", nil, api.ErrForm},
		{"wt", "\x00\x00\x00\x01\x00\x00\x00\x00\x00", nil, api.ErrForm},
	} {
		wantDecode(t, c.shape, c.s, c.want, c.fault)
	}
}

// P1.2: shapes with a star.
func TestDecodeStar(t *testing.T) {
	for _, c := range []struct {
		shape, s string
		want     []api.Item
		fault    api.Errno
	}{
		{"*b", "", nil, api.OK},
		{"*bwlt", "", nil, api.OK},
		{"bw*t", "\x01\x00\x00\x01\x02", items(oneByte(1), word(258)), api.OK},
		{"bw*t", "\x01\x00\x00\x01\x02\x00\x00\x00\x01a", items(oneByte(1), word(258), text("a")), api.OK},
		{"b*t", "\x01\x00\x00\x00\x00\x00\x00\x00\x02ab", items(oneByte(1), text(""), text("ab")), api.OK},
		{"*bw", "\x01\x00\x00\x00\x02\x03\x00\x00\x00\x04", items(oneByte(1), word(2), oneByte(3), word(4)), api.OK},
		{"w*bb", "\x00\x00\x00\x01ab", items(word(1), oneByte('a'), oneByte('b')), api.OK},
		{"b*b", "", nil, api.ErrShort},
		{"bw*t", "\x01", nil, api.ErrShort},
		{"bw*t", "\x01\x00\x00", nil, api.ErrShort},
		{"*bw", "\x01", nil, api.ErrShort},
		{"*bw", "\x01\x00\x00\x00\x02\x03", nil, api.ErrShort},
		{"*bw", "\x01\x00\x00\x00\x02\x03\x00\x00\x00", nil, api.ErrShort},
		{"*bb", "abc", nil, api.ErrShort},
		{"*w", "\x00\x00\x00\x01\x00\x00\x00", nil, api.ErrShort},
		{"*t", "\x00\x00\x00\x01a\x00\x00\x00\x02b", nil, api.ErrShort},
		{"*t", "\x00\x00\x00\x01a\x00\x00\x00", nil, api.ErrShort},
		{"*t", "\x00\x00\x00\x01a\x00\x01\x86\xa1", nil, api.ErrLong},
	} {
		wantDecode(t, c.shape, c.s, c.want, c.fault)
	}
}

// P1.2: the limits, at the edge and one beyond.
func TestDecodeLimits(t *testing.T) {
	full := strings.Repeat("a", api.MaxText)
	wantDecode(t, "t", "\x00\x01\x86\xa0"+full, items(text(full)), api.OK)
	wantDecode(t, "t", "\x00\x01\x86\xa0"+full[1:], nil, api.ErrShort)
	wantDecode(t, "t", "\x00\x01\x86\xa0"+full+"a", nil, api.ErrForm)
	wantDecode(t, "t", "\x00\x01\x86\xa1"+full+"a", nil, api.ErrLong)
	wantDecode(t, "t", "\xff\xff\xff\xff", nil, api.ErrLong)
	wantDecode(t, "t", "\x80\x00\x00\x00", nil, api.ErrLong)

	thousand := strings.Repeat("x", api.MaxItems)
	bs := strings.Repeat("b", api.MaxItems)
	all := many(oneByte('x'), api.MaxItems)
	wantDecode(t, bs, thousand, all, api.OK)
	wantDecode(t, bs, thousand+"x", nil, api.ErrForm)
	wantDecode(t, bs+"b", thousand+"x", nil, api.ErrLong)
	wantDecode(t, "*b", thousand, all, api.OK)
	wantDecode(t, "*b", thousand+"x", nil, api.ErrLong)
	wantDecode(t, "*bb", thousand, all, api.OK)
	wantDecode(t, "*bb", thousand+"x", nil, api.ErrLong)
	wantDecode(t, "*bbb", thousand, nil, api.ErrLong)
	wantDecode(t, bs+"*w", thousand, all, api.OK)
	wantDecode(t, bs+"*w", thousand+"x", nil, api.ErrLong)
	wantDecode(t, "*"+bs+"b", "", nil, api.OK)
}

// P1.2: which fault is told.
func TestDecodeFirstFault(t *testing.T) {
	bs := strings.Repeat("b", api.MaxItems)
	thousand := strings.Repeat("x", api.MaxItems)
	for _, c := range []struct {
		shape, s string
		fault    api.Errno
	}{
		{"bx", "", api.ErrArg},
		{"tx", "\xff\xff\xff\xff", api.ErrArg},
		{"tb", "\x00\x01\x86\xa1", api.ErrLong},
		{"bt", "", api.ErrShort},
		{"tt", "\x00\x00\x00\x09a\xff\xff\xff\xff", api.ErrShort},
		{"tt", "\x00\x00\x00\x01a\xff\xff\xff\xff", api.ErrLong},
		// The 1001st is refused whether or not its bytes are there; a fault ahead of it is told first.
		{bs + "b", thousand, api.ErrLong},
		{bs + "t", thousand + "\x00\x00", api.ErrLong},
		{bs + "b", thousand[1:], api.ErrShort},
		{"t" + bs, "\x00\x00\x00\x01", api.ErrShort},
		{"*tb", "\x00\x00\x00\x01a", api.ErrShort},
	} {
		wantDecode(t, c.shape, c.s, nil, c.fault)
	}
}
