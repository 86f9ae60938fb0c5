package flush_test

import (
	"fmt"
	"slices"
	"testing"

	"carillon/api"
	"carillon/flush"
)

// there asks that a view and a log are told as bytes, and read as they were.
func there(t *testing.T, v api.View, log []string) {
	t.Helper()
	s := plainCode(plainView(v), log)
	wantEncode(t, v, log, s, api.OK)
	wantDecode(t, "back", s, v, log, api.OK)
	wantOwn(t, v, logs(log), s, api.OK)
}

// P19.2: the bytes of a view and a log.
func TestBytes(t *testing.T) {
	v := of(258, m(3, 1))
	head := "\x00\x00\x00\x11" + "\x00\x00\x00\x00\x00\x00\x01\x02" + "\x03" + "\x00\x00\x00\x00\x00\x00\x00\x01"
	for _, c := range []struct {
		log  []string
		want string
	}{
		{nil, head},
		{log(""), head + "\x00\x00\x00\x00"},
		{log("a"), head + "\x00\x00\x00\x01a"},
		{log("ab", "", "c"), head + "\x00\x00\x00\x02ab" + "\x00\x00\x00\x00" + "\x00\x00\x00\x01c"},
		{log("\x00\xff"), head + "\x00\x00\x00\x02\x00\xff"},
		{log(times("x", 258)), head + "\x00\x00\x01\x02" + times("x", 258)},
	} {
		wantEncode(t, v, c.log, c.want, api.OK)
		wantDecode(t, "bytes", c.want, v, c.log, api.OK)
		wantOwn(t, v, logs(nil, c.log), c.want, api.OK)
	}
}

// P19.2, P19.3, T6: views of 1 to MaxNodes members with logs of none, one, many texts go there and back.
func TestThereAndBack(t *testing.T) {
	for _, v := range fewViews() {
		for _, l := range [][]string{nil, log(""), log("a"), log("a", "", "\x00", "é"), log(times("x", 40000), times("y", 40000)), many(10), many(most - 1), many(most), make([]string, most)} {
			there(t, v, l)
		}
	}
	for bits := 1; bits < 1<<api.MaxNodes; bits++ {
		there(t, subset(bits, bits), many(bits%5))
	}
}

// P19.2: 990 texts, and 991: these are too many, however short they are.
func TestMostTexts(t *testing.T) {
	for _, v := range fewViews() {
		for _, n := range []int{988, 989, 990} {
			there(t, v, many(n))
		}
		for _, n := range []int{991, 992, 999, 1000, 1001, 2000, 100000} {
			for _, l := range [][]string{many(n), make([]string, n)} {
				wantEncode(t, v, l, "", api.ErrLong)
				wantOwn(t, v, logs(l), "", api.ErrLong)
				wantOwn(t, v, logs(nil, l, l[:1]), "", api.ErrLong)
			}
		}
		for _, n := range []int{991, 992, 998, 999} {
			wantNone(t, "too many texts", plainCode(plainView(v), make([]string, n)), api.ErrForm)
			wantNone(t, "too many texts", plainCode(plainView(v), many(n)), api.ErrForm)
		}
		for _, n := range []int{1000, 1001, 5000} {
			wantNone(t, "too many items", plainCode(plainView(v), make([]string, n)), api.ErrLong)
		}
	}
}

// filled has its last text be as long as a code of so many bytes asks.
func filled(v api.View, size int, log ...string) []string {
	return append(log, times("f", size-len(plainCode(plainView(v), append(log, "")))))
}

// P19.2: a code of just MaxText bytes, and of one more, with the bytes in one text, in several, in many.
func TestMostBytes(t *testing.T) {
	for _, v := range fewViews() {
		for _, l := range [][]string{nil, log(""), log(times("x", 50000)), log(times("x", 30000), "", times("y", 30000)), many(most - 1)} {
			for size := api.MaxText - 3; size <= api.MaxText; size++ {
				there(t, v, filled(v, size, slices.Clone(l)...))
			}
			for _, size := range []int{api.MaxText + 1, api.MaxText + 2, api.MaxText + 4, api.MaxText + 5, api.MaxText + 100} {
				over := filled(v, size, slices.Clone(l)...)
				for _, l := range [][]string{over, slices.Concat(over[len(over)-1:], over[:len(over)-1])} {
					wantEncode(t, v, l, "", api.ErrLong)
					wantOwn(t, v, logs(l), "", api.ErrLong)
				}
			}
		}
		short := filled(v, api.MaxText-4, "a")
		there(t, v, append(short, ""))
		wantEncode(t, v, append(short, "", ""), "", api.ErrLong)
	}
}

// P19.2: a text that no code has, and texts that are too many bytes many times over.
func TestFarTooLong(t *testing.T) {
	v := of(1, m(0, 1))
	big := times("x", api.MaxText)
	for _, l := range [][]string{{big}, {big + "x"}, {"a", big + "x"}, {times(big, 10)}, slices.Repeat(log(big), most), slices.Repeat(log(times(big, 10)), most+1)} {
		wantEncode(t, v, l, "", api.ErrLong)
		wantOwn(t, v, logs(l, l[:0]), "", api.ErrLong)
	}
}

// P19.2, P2: a view that is not right is told first, whatever the log is.
func TestWrongViews(t *testing.T) {
	for _, v := range wrongViews() {
		for _, l := range [][]string{nil, log("a"), many(3), many(most + 1), log(times("x", api.MaxText))} {
			wantEncode(t, v, l, "", api.ErrArg)
			wantOwn(t, v, logs(l), "", api.ErrArg)
			wantOwn(t, v, logs(l, nil), "", api.ErrArg)
		}
	}
}

// P19.2, P2: Own tells Longest's error ahead of Encode's.
func TestOwnOfWrongLogs(t *testing.T) {
	tooMany := many(most + 1)
	for _, v := range append(wrongViews(), fewViews()...) {
		wantOwn(t, v, nil, "", api.ErrArg)
		wantOwn(t, v, logs(), "", api.ErrArg)
		wantOwn(t, v, logs(log("a"), log("b")), "", api.ErrOrder)
		wantOwn(t, v, logs(log("a", "b"), log("a"), log("a", "c")), "", api.ErrOrder)
		wantOwn(t, v, logs(tooMany, log("x")), "", api.ErrOrder)
		wantOwn(t, v, logs(log(times("x", api.MaxText)), log("x")), "", api.ErrOrder)
	}
}

// P19.2: Own is of the longest of the logs, wherever it stands.
func TestOwn(t *testing.T) {
	for _, v := range fewViews() {
		for _, n := range []int{0, 1, 2, 40, most} {
			whole := many(n)
			s := plainCode(plainView(v), whole)
			for _, l := range [][][]string{{whole}, {whole, nil}, {nil, whole}, {whole[:n/2], whole, whole[:n/3]}, {whole, whole}, {nil, nil, whole[:n/2], whole[:n/2], whole}} {
				wantOwn(t, v, l, s, api.OK)
			}
		}
	}
}

// P19.2: an error of the code is told ahead of one of the view: cut anywhere, but where a text of the log begins, a code is too short.
func TestCutAnywhere(t *testing.T) {
	for _, v := range fewViews() {
		l := log("ab", "", "cde", "f")
		s := plainCode(plainView(v), l)
		ends := map[int]int{len(s): len(l)}
		for n := range l {
			ends[len(plainCode(plainView(v), l[:n]))] = n
		}
		for n := range len(s) + 1 {
			if texts, ok := ends[n]; ok {
				wantDecode(t, "fewer texts", s[:n], v, l[:texts], api.OK)
			} else {
				wantNone(t, "cut", s[:n], api.ErrShort)
			}
		}
	}
	wrong := plainCode("no view", log("ab"))
	for n := range wrong {
		if n != len(plainText("no view")) {
			wantNone(t, "cut, and no view", wrong[:n], api.ErrShort)
		}
	}
}

// P19.2: longer by a byte, or a few, a code is too short; longer by a text of nothing it has one more.
func TestLonger(t *testing.T) {
	for _, v := range fewViews() {
		for _, l := range [][]string{nil, log("a"), many(20)} {
			s := plainCode(plainView(v), l)
			for b := range 256 {
				wantNone(t, "a byte more", s+string([]byte{byte(b)}), api.ErrShort)
			}
			wantNone(t, "two bytes more", s+"\x00\x00", api.ErrShort)
			wantNone(t, "three bytes more", s+"\x00\x00\x00", api.ErrShort)
			wantDecode(t, "a text more", s+"\x00\x00\x00\x00", v, append(slices.Clone(l), ""), api.OK)
			wantNone(t, "a text that ends", s+"\x00\x00\x00\x02x", api.ErrShort)
		}
		full := plainCode(plainView(v), many(most))
		wantNone(t, "a text more than 990", full+"\x00\x00\x00\x00", api.ErrForm)
		wantNone(t, "a byte more than 990 texts", full+"\x00", api.ErrShort)
		wantNone(t, "a part of an item more than 1000", plainCode(plainView(v), make([]string, 999))+"\x00", api.ErrLong)
	}
}

// P19.2: texts that codec's Decode refuses, each of its errors, with a view that is right or not.
func TestErrorsOfTheCode(t *testing.T) {
	for _, c := range []struct {
		name, s string
		fault   api.Errno
	}{
		{"nothing", "", api.ErrShort},
		{"a part of a length", "\x00\x00\x00", api.ErrShort},
		{"a text without bytes", "\x00\x00\x00\x01", api.ErrShort},
		{"a great text without bytes", "\x00\x01\x86\xa0", api.ErrShort},
		{"a text that is too long", "\x00\x01\x86\xa1", api.ErrLong},
		{"a text that is far too long", "\xff\xff\xff\xff", api.ErrLong},
		{"a text that is too long, and there", plainText(times("x", api.MaxText+1)), api.ErrLong},
	} {
		if c.name != "nothing" {
			wantNone(t, "the log: "+c.name, plainText(plainView(of(1, m(0, 1))))+c.s, c.fault)
			wantNone(t, "the log, and no view: "+c.name, plainText("x")+c.s, c.fault)
		}
		wantNone(t, c.name, c.s, c.fault)
	}
}

// P19.2: a view that view's Decode does not take, for whichever reason it does not.
func TestNoViews(t *testing.T) {
	heads := []string{"", "x", times("\x00", 17), times("\xff", 17), times("x", api.MaxText), times("\x01", 8+9*500), plainCode(plainView(of(1, m(0, 1))), nil)}
	for _, v := range wrongViews() {
		if !slices.ContainsFunc(v.Members, func(x api.Member) bool { return x.Node < 0 || x.Node > 255 }) { // others have no code
			heads = append(heads, plainView(v))
		}
	}
	for _, v := range fewViews() {
		s := plainView(v)
		heads = append(heads, s+"x", s+s, "\x00"+s)
		for n := range s {
			if n%9 != 8 || n == 8 { // where a member ends there is a view of fewer
				heads = append(heads, s[:n])
			}
		}
	}
	for _, head := range heads {
		for _, l := range [][]string{nil, log("a"), many(most), many(most + 1)} {
			wantNone(t, "no view", plainCode(head, l), api.ErrForm)
		}
	}
}

// P19.2: items of other kinds, in a view's place and in a log's.
func TestOtherKinds(t *testing.T) {
	v := of(1, m(0, 1))
	head := plainText(plainView(v))
	for _, c := range []struct {
		name, s string
		fault   api.Errno
	}{
		{"a byte", "\x01", api.ErrShort},
		{"a word", "\x00\x00\x00\x07", api.ErrShort},
		{"a long, which is two lengths", "\x00\x00\x00\x00\x00\x00\x00\x00", api.ErrForm},
		{"a long", "\x00\x00\x00\x00\x00\x00\x00\x01", api.ErrShort},
		{"the view without a length", plainView(v), api.ErrShort},
		{"the view without a length, and a log", plainView(v) + plainText("a"), api.ErrShort},
		{"the Number alone, and its texts", plainText(plainView(v)[:8]) + plainText(plainView(v)[8:]), api.ErrForm},
		{"a byte ahead of the view", "\x00" + head, api.ErrLong},
		{"a text ahead of the view", plainText("") + head, api.ErrForm},
		{"a log alone", plainCode("a", log("b")), api.ErrForm},
		{"a byte behind the view", head + "\x01", api.ErrShort},
		{"a word behind the view", head + "\x00\x00\x00\x07", api.ErrShort},
		{"a long behind the view", head + "\x00\x00\x00\x00\x00\x00\x00\x07", api.ErrShort},
		{"a text, and a byte", head + plainText("a") + "\x01", api.ErrShort},
		{"a text, a byte, and a text", head + plainText("a") + "\x01" + plainText("b"), api.ErrLong},
		{"the log in a text", plainText(plainView(v) + plainText("a")), api.ErrForm},
	} {
		wantNone(t, c.name, c.s, c.fault)
	}
	wantDecode(t, "two views", head+head, v, log(plainView(v)), api.OK)
}

// P19.2: of what is read no more is asked than the chapter does: a code of more than MaxText bytes may be read, and is too long to be written.
func TestReadingAsksNoBytes(t *testing.T) {
	v := all(5)
	for _, l := range [][]string{log(times("x", api.MaxText)), filled(v, api.MaxText+1), slices.Repeat(log(times("y", 5000)), 100)} {
		wantDecode(t, "long", plainCode(plainView(v), l), v, l, api.OK)
		wantEncode(t, v, l, "", api.ErrLong)
	}
}

// P2, P5: beside an error there is nothing, not even a list of nothing.
func TestNothingBesideAnError(t *testing.T) {
	l, e := flush.Longest(logs(log("a"), log("b")))
	v, texts, f := flush.Decode(plainText("x") + plainText("y"))
	w, more, g := flush.Decode(plainCode(plainView(all(2)), many(991)))
	if s := fmt.Sprintf("%#v %d, %v %#v %d, %v %#v %d", l, e, v, texts, f, w, more, g); len(l)+len(texts)+len(more)+len(v.Members)+len(w.Members) > 0 {
		t.Error(s)
	}
}
