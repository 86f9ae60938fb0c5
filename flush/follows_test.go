package flush_test

import (
	"encoding/binary"
	"math/bits"
	"slices"
	"strings"
	"sync"
	"testing"

	"carillon/api"
	"carillon/codec"
	"carillon/flush"
	"carillon/order"
)

// someLogs are logs of some texts: most of them beginnings of one, some parted from it.
func someLogs(next func(int) int, size int) [][]string {
	whole := log()
	for range next(8) {
		whole = append(whole, []string{"", "a", "b", "ab", "ba"}[next(5)])
	}
	l := logs()
	for range size {
		x := slices.Clone(whole[:next(len(whole)+1)])
		if next(5) == 0 {
			x = append(x, "c")
		}
		l = append(l, x)
	}
	return l
}

// P19.1, P19.3: logs of all numbers against a plain Longest; where it tells one, it is one of them, each begins it, and it has all that more than half of them have.
func TestLongestHasWhatMostHave(t *testing.T) {
	taken, refused := 0, 0
	for seed := range uint32(20000) {
		next := walk(seed)
		l := someLogs(next, 1+next(api.MaxNodes))
		want, fault := plainLongest(l)
		wantLongest(t, l, want, fault)
		if fault != api.OK {
			refused++
			continue
		}
		taken++
		holdLongest(t, l)
	}
	if taken < 5000 || refused < 5000 {
		t.Errorf("%d were told, %d refused", taken, refused)
	}
}

// holdLongest asks what follows of a Longest that is told.
func holdLongest(t *testing.T, l [][]string) {
	t.Helper()
	told, _ := flush.Longest(l)
	one := false
	for _, x := range l {
		one = one || slices.Equal(x, told)
		if !flush.Prefix(x, told) || flush.Common(x, told) != len(x) {
			t.Fatalf("Longest(%q): %q", l, told)
		}
		for n := range len(x) + 1 {
			have := 0
			for _, y := range l {
				if plainPrefix(x[:n], y) {
					have++
				}
			}
			if 2*have > len(l) && !plainPrefix(x[:n], told) {
				t.Fatalf("Longest(%q): %q; %d have %q", l, told, have, x[:n])
			}
		}
	}
	if !one {
		t.Fatalf("Longest(%q): %q, which is none of them", l, told)
	}
}

// P19.1: what Prefix, Common and Longest say of each other.
func TestOneOfTheOther(t *testing.T) {
	all := each(4, "a", "b")
	for _, a := range all {
		for _, b := range all {
			n := flush.Common(a, b)
			if n != flush.Common(b, a) || !flush.Prefix(a[:n], b) || !flush.Prefix(b[:n], a) || n < len(a) && flush.Prefix(a[:n+1], b) {
				t.Errorf("Common(%q, %q): %d", a, b, n)
			}
			if flush.Prefix(a, b) != (n == len(a)) {
				t.Errorf("Prefix(%q, %q): %v", a, b, n != len(a))
			}
			_, e := flush.Longest(logs(a, b))
			if (e == api.OK) != (flush.Prefix(a, b) || flush.Prefix(b, a)) {
				t.Errorf("Longest(%q, %q): %d", a, b, e)
			}
		}
	}
}

// P19.3: the logs of more than half of a view's nodes, whichever these are and however far each has come: Longest has all that was sure anywhere, and the view that begins with it has it sure.
func TestWhatWasSureIsInTheLongest(t *testing.T) {
	t.Parallel()
	sure, behind := 0, 0
	for seed := range uint32(2000) {
		next := walk(seed)
		nodes := []int{0, 1, 2, 3, 4, 5, 6}[:1+next(api.MaxNodes)]
		var orders []*order.Order
		for _, node := range nodes {
			o, _ := order.New(node, nodes, log("begin"))
			orders = append(orders, o)
		}
		first := orders[0]
		for i := range 40 {
			if next(4) == 0 {
				first.Propose(many(i + 1)[i])
			}
			node := next(len(nodes))
			from, l := first.Wants(node, next(3))
			for k, s := range l {
				orders[node].Add(from+k, s)
			}
			if next(3) > 0 {
				first.Has(node, orders[node].Len())
				orders[node].Learn(first.Sure())
			}
		}
		l := logs()
		for who := range 1 << len(nodes) {
			if 2*bits.OnesCount(uint(who)) <= len(nodes) {
				continue
			}
			l = l[:0]
			for node := range nodes {
				if who>>node&1 == 1 {
					l = append(l, orders[node].Log())
				}
			}
			told, e := flush.Longest(l)
			if e != api.OK || !flush.Prefix(first.Log()[:first.Sure()], told) || !flush.Prefix(told, first.Log()) {
				t.Fatalf("Longest(%q): %q, %d; sure are %d of %q", l, told, e, first.Sure(), first.Log())
			}
			if len(told) < first.Len() {
				behind++
			}
		}
		sure += first.Sure()
	}
	if sure < 5000 || behind < 5000 {
		t.Errorf("%d were sure, %d times the longest had not all", sure, behind)
	}
}

// someView is a view, now and then one that is not right.
func someView(next func(int) int) api.View {
	v := subset(1+next(1000), 1+next(1<<api.MaxNodes-1))
	switch next(12) {
	case 0:
		v.Number = []int{0, -1, great + 1, great}[next(4)]
	case 1:
		v.Members[next(len(v.Members))] = m(next(10)-1, next(3))
	case 2:
		v.Members = v.Members[:0]
	}
	return v
}

// P19.2, P19.3: Encode and Own against plain ones; what they tell is read as it was, and what is read is written as it stood.
func TestLongScripts(t *testing.T) {
	t.Parallel()
	count := map[api.Errno]int{}
	for seed := range uint32(3000) {
		next := walk(seed)
		v := someView(next)
		l := someLogs(next, next(5))
		if len(l) > 0 && next(3) == 0 {
			l[0] = append(l[0], many([]int{3, 985, 995}[next(3)])...)
		}
		if len(l) > 0 && next(3) == 0 {
			l[0] = append(l[0], times("x", api.MaxText-150+next(200)))
		}
		want, fault := "", api.OK
		if x, e := plainLongest(l); e != api.OK {
			fault = e
		} else {
			want, fault = plainEncode(v, x)
			wantEncode(t, v, x, want, fault)
		}
		wantOwn(t, v, l, want, fault)
		count[fault]++
		if fault == api.OK {
			x, _ := plainLongest(l)
			wantDecode(t, "back", want, v, x, api.OK)
		}
	}
	if len(count) != 4 || count[api.OK] < 200 || count[api.ErrArg] < 200 || count[api.ErrLong] < 200 || count[api.ErrOrder] < 200 {
		t.Error(count)
	}
}

// plainDecode reads a code by itself, text by text.
func plainDecode(s string) (api.View, []string, api.Errno) {
	var l []string
	for len(s) > 0 || len(l) == 0 {
		switch {
		case len(l) == api.MaxItems:
			return api.View{}, nil, api.ErrLong
		case len(s) < 4:
			return api.View{}, nil, api.ErrShort
		}
		size := int(binary.BigEndian.Uint32([]byte(s)))
		switch {
		case size > 100000:
			return api.View{}, nil, api.ErrLong
		case size > len(s)-4:
			return api.View{}, nil, api.ErrShort
		}
		l = append(l, s[4:4+size])
		s = s[4+size:]
	}
	head := l[0]
	if len(head)%9 != 8 || len(l) > 991 {
		return api.View{}, nil, api.ErrForm
	}
	v := api.View{Number: int(binary.BigEndian.Uint64([]byte(head)))}
	for head = head[8:]; len(head) > 0; head = head[9:] {
		v.Members = append(v.Members, m(int(head[0]), int(binary.BigEndian.Uint64([]byte(head[1:])))))
	}
	if !plainRight(v) {
		return api.View{}, nil, api.ErrForm
	}
	return v, l[1:], api.OK
}

// holdDecode asks of bytes of any kind what Decode must tell, and that what was read is written as it stood.
func holdDecode(t *testing.T, s string) api.Errno {
	t.Helper()
	v, l, fault := plainDecode(s)
	wantDecode(t, "any bytes", s, v, l, fault)
	if fault == api.OK && len(s) <= api.MaxText {
		wantEncode(t, v, l, s, api.OK)
		wantOwn(t, v, logs(l, l[:len(l)/2]), s, api.OK)
	}
	return fault
}

// P19.2, P19.3: bytes near to those of a code, each byte another one, gone, or doubled.
func TestBytesNearToACode(t *testing.T) {
	count := map[api.Errno]int{}
	for _, v := range []api.View{of(1, m(0, 1)), of(great, m(2, great), m(5, 9)), all(3)} {
		for _, l := range [][]string{nil, log("a"), log("", "ab", "", "c")} {
			s := plainCode(plainView(v), l)
			for i := range s {
				for b := range 256 {
					count[holdDecode(t, s[:i]+string([]byte{byte(b)})+s[i+1:])]++
				}
				count[holdDecode(t, s[:i]+s[i+1:])]++
				count[holdDecode(t, s[:i]+s[i:i+1]+s[i:])]++
				count[holdDecode(t, s[i:])]++
				count[holdDecode(t, s[:i])]++
			}
		}
	}
	if len(count) != 4 || count[api.OK] < 100 || count[api.ErrForm] < 100 || count[api.ErrShort] < 100 || count[api.ErrLong] < 100 {
		t.Error(count)
	}
}

// P3: nothing that is handed in is written into, nor what stands behind it in its array.
func TestNothingIsWrittenInto(t *testing.T) {
	members := []api.Member{m(0, 1), m(2, 1), m(4, 77), m(5, 77)}
	room := log("a", "b", "c", "d", "e")
	outer := logs(room[:2], room[:3], room[:0], log("x"), nil)
	v, l := of(3, members[:2]...), outer[:3]
	want := plainCode(plainView(v), log("a", "b", "c"))
	for range 3 {
		wantPrefix(t, room[:2], room[:3], true)
		wantCommon(t, room[:2], room[1:4], 0)
		wantLongest(t, l, log("a", "b", "c"), api.OK)
		wantLongest(t, outer, nil, api.ErrOrder)
		wantEncode(t, v, room[:3], want, api.OK)
		wantOwn(t, v, l, want, api.OK)
		wantOwn(t, v, outer, "", api.ErrOrder)
		wantOwn(t, of(3, members[1:]...), l, plainCode(plainView(of(3, m(2, 1), m(4, 77), m(5, 77))), log("a", "b", "c")), api.OK)
	}
	if !slices.Equal(members, []api.Member{m(0, 1), m(2, 1), m(4, 77), m(5, 77)}) || !slices.Equal(room, log("a", "b", "c", "d", "e")) {
		t.Error(members, room)
	}
	for i, n := range []int{2, 3, 0, 1, 0} {
		if len(outer[i]) != n || outer[3][0] != "x" {
			t.Error(outer)
		}
	}
}

// P3: what Longest tells is new memory, spare room and texts too: not that of what was handed in, nor of another answer.
func TestLongestIsNewMemory(t *testing.T) {
	for _, l := range [][]string{nil, log(""), log("aa"), log("aa", "", "bb", "cc", "dd")} {
		var texts []string
		var under [][]byte
		for _, s := range l {
			text, b := lent(s)
			texts, under = append(texts, text), append(under, b)
		}
		in := logs(texts[:len(texts)/2], texts)
		first, _ := flush.Longest(in)
		second, _ := flush.Longest(in)
		spoil(first)
		wantLongest(t, in, l, api.OK)
		for i, b := range under {
			for k := range b {
				b[k] = '?'
			}
			texts[i] = "other"
		}
		in[0], in[1] = nil, nil
		if !slices.Equal(second, l) {
			t.Errorf("%q; want %q", second, l)
		}
	}
}

// P3: what Encode, Own and Decode tell is new memory.
func TestCodesAreNewMemory(t *testing.T) {
	v := of(2, m(0, 1), m(3, 4))
	l := log("aa", "", "bb", "cc", "dd")
	want := plainCode(plainView(v), l)
	a, under := lent("aa")
	texts := append(log(a), l[1:]...)
	members := slices.Clone(v.Members)
	s, _ := flush.Encode(of(2, members...), texts)
	own, _ := flush.Own(of(2, members...), logs(nil, texts))
	under[0], texts[1], members[1] = '?', "?", m(6, 6)
	if s != want || own != want {
		t.Errorf("%x, %x; want %x", s, own, want)
	}
	text, bytes := lent(want)
	v1, l1, _ := flush.Decode(text)
	v2, l2, _ := flush.Decode(text)
	spoil(l1)
	clear(v1.Members[:cap(v1.Members)])
	if string(bytes) != want {
		t.Errorf("%x; want %x", bytes, want)
	}
	clear(bytes)
	if !sameView(v2, v) || !slices.Equal(l2, l) {
		t.Errorf("%v, %q", v2, l2)
	}
}

// P4: the same arguments, the same answer, whatever is asked between and beside it.
func TestAnswersHangOnArgumentsAlone(t *testing.T) {
	v, whole := all(7), many(50)
	l := logs(whole[:7], whole, nil, whole[:49])
	want := plainCode(plainView(v), whole)
	var workers sync.WaitGroup
	for range 8 {
		workers.Go(func() {
			for range 50 {
				wantLongest(t, l, whole, api.OK)
				wantLongest(t, logs(whole, log("x")), nil, api.ErrOrder)
				wantOwn(t, v, l, want, api.OK)
				wantEncode(t, v, whole, want, api.OK)
				wantDecode(t, "again", want, v, whole, api.OK)
				wantNone(t, "again", want[1:], api.ErrShort)
				wantPrefix(t, l[0], whole, true)
				wantCommon(t, whole, l[3], 49)
			}
		})
	}
	workers.Wait()
}

// P1, P2, P19.2, P19.3: whatever the bytes, a decoding ends; what it takes is told back as it was.
func FuzzDecode(f *testing.F) {
	for _, v := range append(wrongViews()[:5], fewViews()[:4]...) {
		f.Add(plainCode(plainView(v), nil))
		f.Add(plainCode(plainView(v), log("a", "", "bc")))
	}
	f.Add("")
	f.Add(plainCode(plainView(all(1)), log("a")) + "x")
	f.Fuzz(func(t *testing.T, s string) {
		fault := holdDecode(t, s)
		if _, e := codec.Decode("t*t", s); (e != api.OK || fault != api.ErrForm) && fault != e {
			t.Errorf("%d; codec says %d", fault, e)
		}
	})
}

// P1, P19.1, P19.2, P19.3: logs of all kinds: lines of texts that are parted by blanks.
func FuzzLogs(f *testing.F) {
	f.Add(1, 0, "")
	f.Add(2, 1, "a b\na\na b c\n")
	f.Add(great, 5, "a b\na c\na b")
	f.Add(-1, 127, "a  b\na ")
	f.Fuzz(func(t *testing.T, number, who int, lines string) {
		v := subset(1, who)
		v.Number = number
		l := logs()
		for _, line := range strings.Split(lines, "\n") {
			l = append(l, strings.Split(line, " "))
		}
		for _, a := range l[:min(len(l), 20)] {
			for _, b := range l[:min(len(l), 20)] {
				wantPrefix(t, a, b, plainPrefix(a, b))
				wantCommon(t, a, b, plainCommon(a, b))
			}
		}
		l = l[:min(len(l), 200)]
		want, fault := plainLongest(l)
		wantLongest(t, l, want, fault)
		if fault != api.OK {
			wantOwn(t, v, l, "", fault)
			return
		}
		s, fault := plainEncode(v, want)
		wantOwn(t, v, l, s, fault)
		wantEncode(t, v, want, s, fault)
		if fault == api.OK {
			wantDecode(t, "back", s, v, want, api.OK)
		}
	})
}
