package net_test

import (
	"math"
	"slices"
	"strings"
	"testing"

	"carillon/api"
	"carillon/net"
)

// noNodes are numbers of no node of a net of n.
func noNodes(n int) []int {
	return []int{-1, -2, math.MinInt, n, n + 1, api.MaxNodes, api.MaxNodes + 1, 64, math.MaxInt}
}

// noMessages are numbers of no message of a link of n.
func noMessages(n int) []int {
	return []int{-1, -2, -n, math.MinInt, n, n + 1, api.MaxQueue, math.MaxInt}
}

// P5.1: a net has 1 to MaxNodes nodes, no messages, and is not cut.
func TestNew(t *testing.T) {
	for n := 1; n <= api.MaxNodes; n++ {
		x := made(t, n)
		if x.Nodes() != n {
			t.Errorf("New(%d): %d nodes", n, x.Nodes())
		}
		for a := range n {
			for b := range n {
				if x.Len(a, b) != 0 || !x.Joined(a, b) {
					t.Errorf("New(%d): from %d to %d: %d messages, joined %v", n, a, b, x.Len(a, b), x.Joined(a, b))
				}
			}
		}
	}
	for _, n := range []int{0, -1, math.MinInt, api.MaxNodes + 1, 64, math.MaxInt} {
		if x, e := net.New(n); x != nil || e != api.ErrArg {
			t.Errorf("New(%d): %v, %d", n, x, e)
		}
	}
}

// P5.1 to P5.3: the chapter's examples, one behind the other.
func TestExamples(t *testing.T) {
	x := made(t, 3)
	send(t, x, 0, 1, "a", "b")
	if s, ok := x.Take(0, 1, 1); s != "b" || !ok || x.Len(0, 1) != 1 {
		t.Errorf("Take: %q, %v; Len %d", s, ok, x.Len(0, 1))
	}
	x.Cut(1)
	if s, ok := x.Take(0, 1, 0); s != "" || ok || !x.Joined(1, 2) {
		t.Errorf("Take: %q, %v; Joined %v", s, ok, x.Joined(1, 2))
	}
	x.Cut(0)
	if s, ok := x.Take(0, 1, 0); s != "a" || !ok {
		t.Errorf("Take: %q, %v", s, ok)
	}
	if x.Send(0, 0, "a") || x.Send(0, 3, "a") {
		t.Error("Send over no link: true")
	}
}

// P5.1: what is sent is the last message of its link, whatever its bytes; there may be two of the same.
func TestSend(t *testing.T) {
	all := []string{"a", "", "a", "", "\x00", "\xff\xfe", "a\nb", "é", strings.Repeat("x", 1000000), "z"}
	for _, l := range links(api.MaxNodes) {
		x := made(t, api.MaxNodes)
		for i, s := range all[:4] {
			send(t, x, l[0], l[1], s)
			wantOn(t, x, l[0], l[1], all[:i+1]...)
		}
	}
	x := made(t, 2)
	send(t, x, 1, 0, all...)
	wantOn(t, x, 1, 0, all...)
}

// P5.1, P6: a link goes from a node to another one; over others nothing is sent, and they have no messages.
func TestNoLink(t *testing.T) {
	for n := 1; n <= api.MaxNodes; n++ {
		x := filled(t, n)
		none := [][2]int{}
		for k := range n {
			none = append(none, [2]int{k, k})
			for _, other := range noNodes(n) {
				if other >= n || other < 0 {
					none = append(none, [2]int{k, other}, [2]int{other, k}, [2]int{other, other})
				}
			}
		}
		for _, l := range none {
			refuses(t, x, func() bool { return x.Send(l[0], l[1], "a") })
			if got := x.Len(l[0], l[1]); got != 0 {
				t.Errorf("Len(%d, %d): %d", l[0], l[1], got)
			}
			for _, i := range []int{0, 1, -1} {
				refuses(t, x, func() bool {
					s, ok := x.Take(l[0], l[1], i)
					return s != "" || ok
				})
				refuses(t, x, func() bool { return x.Drop(l[0], l[1], i) })
				refuses(t, x, func() bool { return x.Double(l[0], l[1], i) })
			}
			if t.Failed() {
				t.Fatalf("of %d nodes, from %d to %d", n, l[0], l[1])
			}
		}
	}
}

// P5.1: a link has room for MaxQueue messages; what is sent beyond them is lost, and does not come later.
func TestSendWithoutRoom(t *testing.T) {
	x := made(t, 3)
	all := numbered(api.MaxQueue)
	send(t, x, 1, 2, all[:63]...)
	wantOn(t, x, 1, 2, all[:63]...)
	send(t, x, 1, 2, all[63])
	wantOn(t, x, 1, 2, all...)
	refuses(t, x, func() bool { return x.Send(1, 2, "lost") })
	refuses(t, x, func() bool { return x.Send(1, 2, "") })
	refuses(t, x, func() bool { return x.Send(1, 2, all[0]) })
	send(t, x, 2, 1, "back")
	send(t, x, 1, 0, "aside")
	if s, ok := x.Take(1, 2, 0); s != all[0] || !ok {
		t.Errorf("Take: %q, %v", s, ok)
	}
	wantOn(t, x, 1, 2, all[1:]...)
	send(t, x, 1, 2, "new")
	wantOn(t, x, 1, 2, append(slices.Clone(all[1:]), "new")...)
	refuses(t, x, func() bool { return x.Send(1, 2, "lost") })
	if !x.Drop(1, 2, 63) {
		t.Error("Drop: false")
	}
	send(t, x, 1, 2, "newer")
	wantOn(t, x, 1, 2, append(slices.Clone(all[1:]), "newer")...)
	x.Clear(2)
	send(t, x, 1, 2, all...)
	wantOn(t, x, 1, 2, all...)
}

// P5.1: a cut keeps nothing from being sent, and Len tells what is there.
func TestSendOverACut(t *testing.T) {
	x := made(t, 2)
	x.Cut(2)
	all := numbered(api.MaxQueue)
	for i, s := range all {
		send(t, x, 0, 1, s)
		if x.Len(0, 1) != i+1 {
			t.Errorf("Len %d; want %d", x.Len(0, 1), i+1)
		}
	}
	if x.Send(0, 1, "lost") {
		t.Error("Send without room: true")
	}
	x.Cut(0)
	wantOn(t, x, 0, 1, all...)
}

// P5.2: the i-th message is told, and gone; the others stay in their order.
func TestTake(t *testing.T) {
	for n := 1; n <= 5; n++ {
		for i := range n {
			x := filled(t, 3)
			x.Clear(1)
			all := numbered(n)
			send(t, x, 0, 1, all...)
			if s, ok := x.Take(0, 1, i); s != all[i] || !ok {
				t.Errorf("Take of %d of %d: %q, %v", i, n, s, ok)
			}
			wantOn(t, x, 0, 1, slices.Delete(all, i, i+1)...)
			wantOn(t, x, 1, 0)
			wantOn(t, x, 0, 2, "02a", "02b")
			wantOn(t, x, 2, 0, "20a", "20b")
		}
	}
}

// P5.2: a message of no bytes is one.
func TestMessageOfNoBytes(t *testing.T) {
	x := made(t, 2)
	send(t, x, 0, 1, "")
	if !x.Double(0, 1, 0) || x.Len(0, 1) != 2 {
		t.Errorf("Double: Len %d", x.Len(0, 1))
	}
	for left := 1; left >= 0; left-- {
		if s, ok := x.Take(0, 1, 0); s != "" || !ok || x.Len(0, 1) != left {
			t.Errorf("Take: %q, %v; Len %d", s, ok, x.Len(0, 1))
		}
	}
	if s, ok := x.Take(0, 1, 0); s != "" || ok {
		t.Errorf("Take of nothing: %q, %v", s, ok)
	}
	send(t, x, 0, 1, "")
	if !x.Drop(0, 1, 0) || x.Drop(0, 1, 0) {
		t.Error("Drop")
	}
}

// P5.2: the i-th message is gone; the others stay in their order.
func TestDrop(t *testing.T) {
	for n := 1; n <= 5; n++ {
		for i := range n {
			x := filled(t, 3)
			x.Clear(1)
			all := numbered(n)
			send(t, x, 0, 1, all...)
			if !x.Drop(0, 1, i) {
				t.Errorf("Drop of %d of %d: false", i, n)
			}
			wantOn(t, x, 0, 1, slices.Delete(all, i, i+1)...)
			wantOn(t, x, 1, 0)
			wantOn(t, x, 0, 2, "02a", "02b")
			wantOn(t, x, 2, 0, "20a", "20b")
		}
	}
}

// P5.2: the i-th message stays where it is, and is the last one, too.
func TestDouble(t *testing.T) {
	for n := 1; n <= 5; n++ {
		for i := range n {
			x := filled(t, 3)
			x.Clear(1)
			all := numbered(n)
			send(t, x, 0, 1, all...)
			if !x.Double(0, 1, i) {
				t.Errorf("Double of %d of %d: false", i, n)
			}
			wantOn(t, x, 0, 1, append(all, all[i])...)
			wantOn(t, x, 1, 0)
			wantOn(t, x, 0, 2, "02a", "02b")
			wantOn(t, x, 2, 0, "20a", "20b")
		}
	}
}

// P5.2: each of the two that Double leaves goes by itself, and may be doubled again.
func TestDoubleOfADouble(t *testing.T) {
	x := made(t, 2)
	send(t, x, 0, 1, "a", "b")
	if !x.Double(0, 1, 0) || !x.Drop(0, 1, 0) {
		t.Error("Double, Drop")
	}
	wantOn(t, x, 0, 1, "b", "a")
	if !x.Double(0, 1, 1) || !x.Double(0, 1, 2) || !x.Double(0, 1, 0) {
		t.Error("Double")
	}
	wantOn(t, x, 0, 1, "b", "a", "a", "a", "b")
	if s, ok := x.Take(0, 1, 2); s != "a" || !ok {
		t.Errorf("Take: %q, %v", s, ok)
	}
	wantOn(t, x, 0, 1, "b", "a", "a", "b")
}

// P5.2: Double asks for room, as Send does.
func TestDoubleWithoutRoom(t *testing.T) {
	for _, i := range []int{0, 1, 31, 62} {
		x := filled(t, 3)
		x.Clear(1)
		all := numbered(63)
		send(t, x, 0, 1, all...)
		if !x.Double(0, 1, i) {
			t.Errorf("Double of %d of 63: false", i)
		}
		all = append(all, all[i])
		wantOn(t, x, 0, 1, all...)
		for _, j := range []int{0, i, 62, 63, 64, -1} {
			refuses(t, x, func() bool { return x.Double(0, 1, j) })
		}
		refuses(t, x, func() bool { return x.Send(0, 1, "lost") })
		if !x.Drop(0, 1, 0) || !x.Double(0, 1, 0) {
			t.Error("no room behind a Drop")
		}
		wantOn(t, x, 0, 1, append(slices.Clone(all[1:]), all[1])...)
	}
}

// P5.2, P6: messages are counted from 0 on; of one that is none nothing is told, and nothing changes.
func TestNoMessage(t *testing.T) {
	for _, n := range []int{0, 1, 2, 5, 63, 64} {
		x := filled(t, 3)
		x.Clear(1)
		send(t, x, 0, 1, numbered(n)...)
		for _, i := range noMessages(n) {
			if 0 <= i && i < n {
				continue
			}
			refuses(t, x, func() bool {
				s, ok := x.Take(0, 1, i)
				return s != "" || ok
			})
			refuses(t, x, func() bool { return x.Drop(0, 1, i) })
			refuses(t, x, func() bool { return x.Double(0, 1, i) })
			if t.Failed() {
				t.Fatalf("message %d of %d", i, n)
			}
		}
	}
}

// P5.4: links know nothing of one another: what is done with one shows on none of the others.
func TestLinksKnowNothingOfOneAnother(t *testing.T) {
	for _, l := range links(api.MaxNodes) {
		a, b := own(l, "a"), own(l, "b")
		for name, c := range map[string]struct {
			do   func(x *net.Net) bool
			want []string
		}{
			"Send": {func(x *net.Net) bool { return x.Send(l[0], l[1], "new") }, []string{a, b, "new"}},
			"Take": {func(x *net.Net) bool {
				s, ok := x.Take(l[0], l[1], 1)
				return s == b && ok
			}, []string{a}},
			"Drop":   {func(x *net.Net) bool { return x.Drop(l[0], l[1], 0) }, []string{b}},
			"Double": {func(x *net.Net) bool { return x.Double(l[0], l[1], 0) }, []string{a, b, a}},
			"all of its room": {func(x *net.Net) bool {
				for range api.MaxQueue {
					x.Double(l[0], l[1], 0)
				}
				return !x.Send(l[0], l[1], "lost")
			}, append([]string{a, b}, slices.Repeat([]string{a}, 62)...)},
		} {
			x := filled(t, api.MaxNodes)
			if !c.do(x) {
				t.Fatalf("%s of %v: false", name, l)
			}
			for _, other := range links(api.MaxNodes) {
				want := []string{own(other, "a"), own(other, "b")}
				if other == l {
					want = c.want
				}
				wantOn(t, x, other[0], other[1], want...)
			}
			if t.Failed() {
				t.Fatalf("%s of %v", name, l)
			}
		}
	}
}

// P5.4: links know nothing of one another: that one is full takes no room from the others.
func TestAllLinksFull(t *testing.T) {
	x := made(t, api.MaxNodes)
	for _, l := range links(api.MaxNodes) {
		for _, s := range numbered(api.MaxQueue) {
			send(t, x, l[0], l[1], own(l, s))
		}
	}
	for _, l := range links(api.MaxNodes) {
		if x.Send(l[0], l[1], "lost") || x.Double(l[0], l[1], 0) || x.Len(l[0], l[1]) != 64 {
			t.Errorf("%v: room, or Len %d", l, x.Len(l[0], l[1]))
		}
		for _, s := range numbered(api.MaxQueue) {
			if got, ok := x.Take(l[0], l[1], 0); got != own(l, s) || !ok {
				t.Fatalf("%v: Take %q, %v; want %q", l, got, ok, own(l, s))
			}
		}
	}
}

// P5.4: what Take tells was sent over that link, and is told once for each time it was sent or doubled.
func TestToldOnce(t *testing.T) {
	x := made(t, 3)
	left := map[string]int{}
	for _, l := range links(3) {
		for times, s := range numbered(5) {
			s = own(l, s)
			send(t, x, l[0], l[1], s)
			left[s]++
			for range times { // behind the Sends and Doubles ahead of it
				if !x.Double(l[0], l[1], x.Len(l[0], l[1])-1) {
					t.Fatal("Double: false")
				}
				left[s]++
			}
		}
	}
	for _, l := range links(3) {
		for k := 0; x.Len(l[0], l[1]) > 0; k++ {
			s, ok := x.Take(l[0], l[1], k%x.Len(l[0], l[1]))
			if !ok || left[s] == 0 || !strings.HasPrefix(s, own(l, "m")) {
				t.Fatalf("%v: Take %q, %v, of which %d were left", l, s, ok, left[s])
			}
			left[s]--
		}
	}
	for s, n := range left {
		if n != 0 {
			t.Errorf("%q was not told %d times", s, n)
		}
	}
}
