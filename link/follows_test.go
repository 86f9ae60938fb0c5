package link_test

import (
	"fmt"
	"math"
	"slices"
	"strings"
	"testing"
	"unsafe"

	"carillon/api"
	"carillon/link"
)

// P9.5: two ends that begin once each, whatever is lost, doubled or mixed up; held against plain ones.
func TestPairs(t *testing.T) {
	for seed := range uint32(300) {
		script(t, int(seed%3)+1, int(seed%4)+1, false, walk(seed*7919, 1200))
	}
	script(t, great, great, false, walk(1, 1200))
	script(t, 1, great, false, walk(2, 1200))
}

// P9.3, P9.5: ends that begin again: what is told is what was sent to that beginning of the end, by that of its peer.
func TestPairsThatBeginAgain(t *testing.T) {
	for seed := range uint32(300) {
		script(t, int(seed%3)+1, int(seed%4)+1, true, walk(seed*104729+1, 1200))
	}
}

// P9.1 to P9.3: an end whose peer says anything, held against a plain one.
func TestStrangePeers(t *testing.T) {
	for seed := range uint32(300) {
		strange(t, walk(seed*15485863+2, 2400))
	}
}

// P9.5: each way of losing some of the first frames of both ends.
func TestLosses(t *testing.T) {
	const frames = 12
	for lost := range 1 << frames {
		p := newPair(t, 1, 2, false)
		for k, e := range p.ends {
			for i := range 3 + 7*k {
				e.send(t, fmt.Sprint(k, i))
			}
		}
		n := 0
		for n < frames {
			for k, e := range p.ends {
				for _, f := range e.out(t) {
					if n >= frames || lost>>n&1 == 0 {
						p.ends[1-k].take(t, f)
					}
					n++
				}
				e.tick(t)
			}
			p.follows(t)
		}
		p.settle(t, false)
	}
}

// P9.5: frames that come the other way round, all of them, and all of them twice.
func TestMixedUp(t *testing.T) {
	p := newPair(t, 1, 1, false)
	a, b := p.ends[0], p.ends[1]
	p.settle(t, false)
	for i := range 20 {
		a.send(t, fmt.Sprint("a", i))
		b.send(t, fmt.Sprint("b", i))
	}
	for range 100 {
		for k, e := range p.ends {
			l := e.out(t)
			slices.Reverse(l)
			for _, f := range append(l, l...) {
				p.ends[1-k].take(t, f)
			}
			e.tick(t)
		}
		p.follows(t)
	}
	if len(a.told[1]) != 20 || len(b.told[1]) != 20 || a.l.Waiting() != 0 || b.l.Waiting() != 0 {
		t.Errorf("told %d and %d; %d and %d wait", len(a.told[1]), len(b.told[1]), a.l.Waiting(), b.l.Waiting())
	}
}

// P9.5, P9.4: all goes by way of bytes too, many more bodies than an end keeps, of all sizes.
func TestByBytes(t *testing.T) {
	a, b := made(t, 7), made(t, 8)
	var given, told []string
	over := func(from, to *link.Link) {
		for _, f := range from.Out() {
			s, e := link.Encode(f)
			if e != api.OK {
				t.Fatal(e)
			}
			g, e := link.Decode(s)
			if g != f || e != api.OK {
				t.Fatalf("%s, %d; want %s", shown(g), e, shown(f))
			}
			bodies, reset := to.Take(g)
			if reset {
				t.Fatal("reset")
			}
			told = append(told, bodies...)
		}
	}
	for i := range 400 {
		if body := fmt.Sprint(i, strings.Repeat("x", i*i%5000)); a.Send(body) == api.OK {
			given = append(given, body)
		}
		over(a, b)
		if i%5 == 0 {
			over(b, a)
		}
	}
	for range 10 {
		over(b, a)
		over(a, b)
	}
	if len(given) < 300 || !slices.Equal(told, given) || a.Waiting() != 0 {
		t.Errorf("told %d of %d; %d wait", len(told), len(given), a.Waiting())
	}
}

// lent is a text whose bytes the caller goes on to write into.
func lent(b []byte) string { return unsafe.String(unsafe.SliceData(b), len(b)) }

// over writes over what was lent.
func over(b []byte) {
	for i := range b {
		b[i] = '!'
	}
}

// P3: nothing that was handed in is kept, nor written into.
func TestNothingHandedInIsKept(t *testing.T) {
	l := met(t)
	sent, taken := []byte("abc"), []byte("xyz")
	if e := l.Send(lent(sent[:2])); e != api.OK {
		t.Error(e)
	}
	bodies, _ := l.Take(said(1, 0, lent(taken[:2])))
	s, _ := link.Encode(put(1, 1, "ab"))
	code := []byte(s + "!")
	f, e := link.Decode(lent(code[:len(s)]))
	if string(sent) != "abc" || string(taken) != "xyz" || string(code) != s+"!" || e != api.OK {
		t.Errorf("%q, %q, %q, %d", sent, taken, code, e)
	}
	again, e := link.Encode(put(1, 1, lent(sent[:2])))
	over(sent)
	over(taken)
	over(code)
	if !slices.Equal(bodies, []string{"xy"}) || f != put(1, 1, "ab") || again != s || e != api.OK {
		t.Errorf("%q, %s, %q, %d", bodies, shown(f), again, e)
	}
	wantOut(t, l, put(1, 1, "ab"))
}

// P3: what is told is new memory: no two lists and no two texts share any, spare room too.
func TestAnswersAreNewMemory(t *testing.T) {
	l := met(t)
	handed := "abc"
	for range 3 {
		if e := l.Send(handed); e != api.OK {
			t.Error(e)
		}
	}
	var texts []string
	for range 3 {
		out := l.Out()
		for _, f := range out {
			texts = append(texts, f.Body)
		}
		for i := range out[:cap(out)] {
			out[:cap(out)][i] = api.Frame{Body: "!"}
		}
		ticks(l, 3)
	}
	for k := 1; k <= 3; k++ {
		bodies, _ := l.Take(said(k, 0, handed))
		texts = append(texts, bodies...)
		for i := range bodies[:cap(bodies)] {
			bodies[:cap(bodies)][i] = "!"
		}
	}
	if len(texts) != 12 {
		t.Errorf("%d texts", len(texts))
	}
	texts = append(texts, handed)
	for i, a := range texts {
		for _, b := range texts[:i] {
			if a != "abc" || unsafe.StringData(a) == unsafe.StringData(b) {
				t.Errorf("%q and %q share their bytes, or are others", a, b)
			}
		}
	}
}

// P3: what is told stays as it was told, whatever is done then.
func TestWhatIsToldStays(t *testing.T) {
	l := met(t)
	sendUpTo(t, l, 1, 32)
	first := l.Out()
	for ack := 1; ack <= 8; ack++ {
		l.Take(said(ack, ack, "b"))
		sendUpTo(t, l, 32+ack, 32+ack)
		l.Out()
	}
	l.Take(api.Frame{Epoch: 9})
	if !slices.Equal(first, puts(1, 8, 0)) {
		t.Errorf("%s", shown(first...))
	}
}

// P4: ends that are played the same tell the same, whatever is done with others beside them.
func TestAnswersHangOnTheEndAlone(t *testing.T) {
	for seed := range uint32(8) {
		t.Run(fmt.Sprint(seed), func(t *testing.T) {
			t.Parallel()
			for range 3 {
				script(t, 1, 2, true, walk(seed%2, 800))
				strange(t, walk(seed%2, 1600))
			}
		})
	}
}

// P1, P2: whatever comes is answered, and beside an error there is nothing.
func TestAllArguments(t *testing.T) {
	numbers := []int{math.MinInt, -1, 0, 1, other, own, great, great + 1, math.MaxInt}
	bodies := []string{"", "a", strings.Repeat("x", api.MaxText), strings.Repeat("x", api.MaxText+1)}
	for state, at := range states(t) {
		for _, epoch := range numbers {
			for _, peer := range numbers {
				l := at()
				for _, seq := range numbers {
					for _, ack := range numbers {
						f := api.Frame{Epoch: epoch, Peer: peer, Seq: seq, Ack: ack, Body: bodies[(seq^ack)&3]}
						if told, _ := l.Take(f); len(told) > 1 {
							t.Errorf("Take(%s) at %q: %d bodies", shown(f), state, len(told))
						}
						if state != "new" {
							continue
						}
						s, e := link.Encode(f)
						if g, fault := link.Decode(s); (e == api.OK) != (fault == api.OK) || e == api.OK && g != f || e != api.OK && s != "" {
							t.Errorf("%s: Encode %d bytes, %d; Decode %s, %d", shown(f), len(s), e, shown(g), fault)
						}
					}
				}
				l.Tick()
				if n := len(l.Out()); n > api.MaxWindow {
					t.Errorf("at %q: %d frames", state, n)
				}
			}
		}
	}
}

// P1, P9.5: scripts of all kinds.
func FuzzPairs(f *testing.F) {
	f.Add(uint8(0), []byte{0, 0, 100, 0, 180, 0, 100, 1, 180, 1, 100, 0, 180, 0})
	f.Add(uint8(1), walk(1, 100))
	f.Add(uint8(2), walk(2, 400))
	f.Add(uint8(3), walk(3, 400))
	f.Fuzz(func(t *testing.T, kind uint8, s []byte) {
		s = s[:min(len(s), 4000)]
		script(t, int(kind)%5+1, int(kind)%7+1, kind%2 == 1, s)
		strange(t, s)
	})
}

// P1, P9.4, T6: what is decoded is encoded as it was.
func FuzzDecode(f *testing.F) {
	for _, x := range right() {
		s, _ := link.Encode(x)
		f.Add(s)
		f.Add(s[:len(s)/2])
	}
	f.Fuzz(func(t *testing.T, s string) {
		x, e := link.Decode(s)
		if e != api.OK && x != (api.Frame{}) {
			t.Errorf("%s, %d", shown(x), e)
		}
		if back, fault := link.Encode(x); e == api.OK && (back != s || fault != api.OK) {
			t.Errorf("%q, %d; want %q", back, fault, s)
		}
		body := ""
		if len(s) >= 8 {
			body = s[8:]
		}
		if len(body) > api.MaxFrame {
			return
		}
		x, e = link.Decode(framed(t, body)) // with a sum that holds
		if back, fault := link.Encode(x); e == api.OK && (back != framed(t, body) || fault != api.OK) || e != api.OK && e != api.ErrForm {
			t.Errorf("%q, %d; %d", back, fault, e)
		}
	})
}
