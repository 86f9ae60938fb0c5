package flush_test

import (
	"encoding/binary"
	"fmt"
	"math"
	"slices"
	"strconv"
	"strings"
	"testing"
	"unsafe"

	"carillon/api"
	"carillon/flush"
)

const great = 1<<53 - 1

// most is how many texts a log may have in a code.
const most = 990

func m(node, life int) api.Member { return api.Member{Node: node, Life: life} }

func of(number int, members ...api.Member) api.View {
	return api.View{Number: number, Members: members}
}

func log(texts ...string) []string { return texts }

func logs(l ...[]string) [][]string { return l }

// times is a text of n times s.
func times(s string, n int) string { return strings.Repeat(s, n) }

// many are so many texts, each another one, of several lengths.
func many(n int) []string {
	var l []string
	for i := range n {
		l = append(l, times("t", i%3)+strconv.Itoa(i))
	}
	return l
}

// subset is a view of the nodes of the bits.
func subset(number, bits int) api.View {
	v := of(number)
	for node := range api.MaxNodes {
		if bits>>node&1 == 1 {
			v.Members = append(v.Members, m(node, 1+(number+node)%4))
		}
	}
	return v
}

// all has a member of each node.
func all(number int) api.View { return subset(number, 1<<api.MaxNodes-1) }

// fewViews are views of 1 to MaxNodes members, and at the edges of Number and Life.
func fewViews() []api.View {
	l := []api.View{of(1, m(0, 1)), of(great, m(api.MaxNodes-1, great)), of(2, m(3, 1)), of(1<<32, m(0, great), m(6, 1))}
	for n := range api.MaxNodes {
		l = append(l, subset(n+1, 1<<(n+1)-1), subset(great-n, 1<<api.MaxNodes-1<<n&(1<<api.MaxNodes-1)))
	}
	return l
}

// wrongViews are views that are not right.
func wrongViews() []api.View {
	l := []api.View{{}, of(1), of(0, m(0, 1)), of(-1, m(0, 1)), of(great+1, m(0, 1)), of(math.MaxInt, m(0, 1)), of(math.MinInt, m(0, 1))}
	for _, x := range []api.Member{m(-1, 1), m(api.MaxNodes, 1), m(256, 1), m(0, 0), m(0, -1), m(0, great+1), m(math.MinInt, math.MaxInt), {}} {
		l = append(l, of(1, x), of(1, x, m(6, 1)), of(1, m(0, 1), x), of(1, m(0, 1), x, m(6, 1)))
	}
	seven := all(1).Members
	return append(l,
		of(1, m(1, 1), m(0, 1)), of(1, m(0, 1), m(0, 1)), of(1, m(0, 1), m(0, 2)), of(1, m(0, 1), m(2, 1), m(1, 1)),
		of(1, append(slices.Clone(seven), m(7, 1))...), of(1, append(slices.Clone(seven), m(6, 1))...), of(1, slices.Repeat(seven, 200)...))
}

// each are all logs of up to so many texts of these.
func each(length int, texts ...string) [][]string {
	l := logs(nil)
	for from := 0; length > 0; length-- {
		ahead := l[from:]
		from = len(l)
		for _, x := range ahead {
			for _, s := range texts {
				l = append(l, append(slices.Clone(x), s))
			}
		}
	}
	return l
}

func plainPrefix(a, b []string) bool {
	return len(a) <= len(b) && slices.Equal(a, b[:len(a)])
}

func plainCommon(a, b []string) int {
	for n := len(a); ; n-- {
		if plainPrefix(a[:n], b) {
			return n
		}
	}
}

// plainLongest goes over all pairs.
func plainLongest(l [][]string) ([]string, api.Errno) {
	if len(l) == 0 {
		return nil, api.ErrArg
	}
	for _, a := range l {
		for _, b := range l {
			if !plainPrefix(a, b) && !plainPrefix(b, a) {
				return nil, api.ErrOrder
			}
		}
	}
	return slices.MaxFunc(l, func(a, b []string) int { return len(a) - len(b) }), api.OK
}

func plainText(s string) string {
	return string(binary.BigEndian.AppendUint32(nil, uint32(len(s)))) + s
}

// plainView are the bytes of a view, right or not; of a Node its last byte.
func plainView(v api.View) string {
	b := binary.BigEndian.AppendUint64(nil, uint64(v.Number))
	for _, x := range v.Members {
		b = binary.BigEndian.AppendUint64(append(b, byte(x.Node)), uint64(x.Life))
	}
	return string(b)
}

// plainCode are the bytes of a text in a view's place, and of a log.
func plainCode(head string, log []string) string {
	var b strings.Builder
	b.WriteString(plainText(head))
	for _, s := range log {
		b.WriteString(plainText(s))
	}
	return b.String()
}

func plainRight(v api.View) bool {
	for i, x := range v.Members {
		if x.Node < 0 || x.Node > 6 || x.Life < 1 || x.Life > great || i > 0 && v.Members[i-1].Node >= x.Node {
			return false
		}
	}
	return v.Number >= 1 && v.Number <= great && len(v.Members) > 0
}

// plainEncode asks what Encode must.
func plainEncode(v api.View, log []string) (string, api.Errno) {
	if !plainRight(v) {
		return "", api.ErrArg
	}
	s := plainCode(plainView(v), log)
	if len(log) > 990 || len(s) > 100000 {
		return "", api.ErrLong
	}
	return s, api.OK
}

// sameView holds views against each other; a list of nothing may be nil or empty.
func sameView(v, w api.View) bool {
	return v.Number == w.Number && slices.Equal(v.Members, w.Members)
}

// brief keeps a failure's lines short.
func brief(l any) string { return fmt.Sprintf("%.80q", l) }

func wantPrefix(t *testing.T, a, b []string, want bool) {
	t.Helper()
	if flush.Prefix(a, b) != want {
		t.Errorf("Prefix(%s; %s): %v", brief(a), brief(b), !want)
	}
}

func wantCommon(t *testing.T, a, b []string, want int) {
	t.Helper()
	if n := flush.Common(a, b); n != want {
		t.Errorf("Common(%s; %s): %d; want %d", brief(a), brief(b), n, want)
	}
}

func wantLongest(t *testing.T, l [][]string, want []string, fault api.Errno) {
	t.Helper()
	if x, e := flush.Longest(l); !slices.Equal(x, want) || e != fault {
		t.Errorf("Longest(%s): %s, %d; want %s, %d", brief(l), brief(x), e, brief(want), fault)
	}
}

func wantEncode(t *testing.T, v api.View, log []string, want string, fault api.Errno) {
	t.Helper()
	if s, e := flush.Encode(v, log); s != want || e != fault {
		t.Errorf("Encode(%v, %d texts): %.60x, of %d bytes, %d; want %.60x, of %d bytes, %d", v, len(log), s, len(s), e, want, len(want), fault)
	}
}

func wantOwn(t *testing.T, v api.View, l [][]string, want string, fault api.Errno) {
	t.Helper()
	if s, e := flush.Own(v, l); s != want || e != fault {
		t.Errorf("Own(%v, %d logs): %.60x, of %d bytes, %d; want %.60x, of %d bytes, %d", v, len(l), s, len(s), e, want, len(want), fault)
	}
}

func wantDecode(t *testing.T, name, s string, v api.View, log []string, fault api.Errno) {
	t.Helper()
	if w, l, e := flush.Decode(s); !sameView(w, v) || !slices.Equal(l, log) || e != fault {
		t.Errorf("%s: Decode(%.60x, of %d bytes): %v, %d texts %s, %d; want %v, %d texts %s, %d", name, s, len(s), w, len(l), brief(l), e, v, len(log), brief(log), fault)
	}
}

// wantNone asks that a text is refused.
func wantNone(t *testing.T, name, s string, fault api.Errno) {
	t.Helper()
	wantDecode(t, name, s, api.View{}, nil, fault)
}

// walk tells numbers that look like any, and are the same each time.
func walk(seed uint32) func(below int) int {
	return func(below int) int {
		seed = seed*1664525 + 1013904223
		return int(seed>>8) % below
	}
}

// lent tells a text over bytes that may be written into later.
func lent(s string) (string, []byte) {
	b := []byte(s)
	return unsafe.String(unsafe.SliceData(b), len(b)), b
}

// spoil writes over a list, its spare room too, and over the bytes of its texts.
func spoil(l []string) {
	for _, s := range l {
		b := unsafe.Slice(unsafe.StringData(s), len(s))
		for k := range b {
			b[k] = '!'
		}
	}
	l = l[:cap(l)]
	for i := range l {
		l[i] = "?"
	}
}
