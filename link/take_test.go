package link_test

import (
	"fmt"
	"strings"
	"testing"

	"carillon/api"
	"carillon/link"
)

// P9.3: a frame that is not right is nothing, however the end stands: its Epoch is not looked at either.
func TestTakeWrong(t *testing.T) {
	for _, f := range wrong() {
		unchanged(t, "Take of "+shown(f), func(l *link.Link) { wantTake(t, l, f, nil, false) })
		if f.Epoch != said(0, 0, "").Epoch {
			continue
		}
		f.Epoch = great
		unchanged(t, "Take of "+shown(f), func(l *link.Link) { wantTake(t, l, f, nil, false) })
	}
}

// P9.3: frames at the edges of what is right are taken.
func TestTakeRight(t *testing.T) {
	for _, f := range right() {
		l := made(t, own)
		l.Out()
		f.Peer = own
		var want []string
		if f.Seq == 1 {
			want = []string{f.Body}
		}
		wantTake(t, l, f, want, false)
		wantPeer(t, l, f.Epoch)
		var out []api.Frame
		if f.Seq != 0 {
			out = []api.Frame{{Epoch: own, Peer: f.Epoch, Ack: len(want)}}
		}
		wantOut(t, l, out...)
	}
}

// P9.3: a frame of a lesser Epoch than the peer's is nothing.
func TestTakeOfALesserEpoch(t *testing.T) {
	for _, epoch := range []int{1, other - 1} {
		for _, peer := range []int{0, 1, own, great} {
			for _, f := range []api.Frame{{Epoch: epoch, Peer: peer}, {Epoch: epoch, Peer: peer, Ack: 1}, {Epoch: epoch, Peer: peer, Seq: 1, Ack: 2, Body: "a"}} {
				for state, end := range states(t) {
					l := end()
					if l.Peer() == 0 {
						continue
					}
					wantTake(t, l, f, nil, false)
					if got, want := tale(l), tale(end()); got != want {
						t.Errorf("Take(%s) at %q: %s\nwant %s", shown(f), state, got, want)
					}
				}
			}
		}
	}
	l := made(t, own)
	wantTake(t, l, api.Frame{Epoch: great, Peer: own}, nil, false)
	wantTake(t, l, api.Frame{Epoch: great - 1, Peer: own, Seq: 1, Body: "a"}, nil, false)
	wantPeer(t, l, great)
}

// P9.3: the first Epoch that comes is the peer's; that is no RESET: what waits goes on to wait.
func TestTakeOfAFirstEpoch(t *testing.T) {
	for _, epoch := range []int{1, 2, own, great} {
		for _, peer := range []int{0, own, own + 1, great} {
			l := made(t, own)
			sendUpTo(t, l, 1, 9)
			l.Out()
			wantTake(t, l, api.Frame{Epoch: epoch, Peer: peer, Ack: 1}, nil, false)
			wantPeer(t, l, epoch)
			wantWaiting(t, l, 9)
			out := l.Out()
			if len(out) != 8 || out[0] != (api.Frame{Epoch: own, Peer: epoch, Seq: 1, Body: "m1"}) {
				t.Errorf("Out: %s", shown(out...))
			}
		}
	}
}

// P9.3: a greater Epoch than the peer's is a RESET: nothing of the new peer has been taken, no body waits, numbers begin again with 1.
func TestReset(t *testing.T) {
	for _, epoch := range []int{other + 1, own, own + 1, great} {
		for _, peer := range []int{0, 1, own - 1, own + 1, great} {
			l := met(t)
			wantTake(t, l, said(1, 0, "a"), []string{"a"}, false)
			sendUpTo(t, l, 1, 10)
			wantOut(t, l, puts(1, 8, 1)...)
			ticks(l, 2)
			wantTake(t, l, said(0, 2, ""), nil, false)
			ticks(l, 2)
			wantTake(t, l, api.Frame{Epoch: epoch, Peer: peer, Seq: 1, Ack: 4, Body: "not for this end"}, nil, true)
			wantPeer(t, l, epoch)
			wantWaiting(t, l, 0)
			wantOut(t, l, api.Frame{Epoch: own, Peer: epoch})
			ticks(l, 3)
			wantOut(t, l)
			for ack := range 12 { // none of these was put out since
				wantTake(t, l, api.Frame{Epoch: epoch, Peer: own, Ack: ack}, nil, false)
			}
			sendUpTo(t, l, 1, 2)
			wantTake(t, l, api.Frame{Epoch: epoch, Peer: own, Ack: 1}, nil, false)
			wantOut(t, l, api.Frame{Epoch: own, Peer: epoch, Seq: 1, Body: "m1"}, api.Frame{Epoch: own, Peer: epoch, Seq: 2, Body: "m2"})
			ticks(l, 2)
			wantOut(t, l)
			l.Tick()
			wantOut(t, l, api.Frame{Epoch: own, Peer: epoch, Seq: 1, Body: "m1"}, api.Frame{Epoch: own, Peer: epoch, Seq: 2, Body: "m2"})
			wantTake(t, l, api.Frame{Epoch: epoch, Peer: own, Seq: 1, Ack: 2, Body: "b"}, []string{"b"}, false)
			wantWaiting(t, l, 0)
		}
	}
}

// P9.3: the frame that makes a RESET is taken as any other one, if its Peer is the own epoch.
func TestResetAndABody(t *testing.T) {
	for _, c := range []struct {
		f    api.Frame
		want []string
		out  []api.Frame
	}{
		{api.Frame{Epoch: 9, Peer: own}, nil, nil},
		{api.Frame{Epoch: 9, Peer: own, Ack: 1}, nil, nil},
		{api.Frame{Epoch: 9, Peer: own, Seq: 1, Body: "b"}, []string{"b"}, []api.Frame{{Epoch: own, Peer: 9, Ack: 1}}},
		{api.Frame{Epoch: 9, Peer: own, Seq: 1, Ack: 3, Body: ""}, []string{""}, []api.Frame{{Epoch: own, Peer: 9, Ack: 1}}},
		{api.Frame{Epoch: 9, Peer: own, Seq: 2, Body: "b"}, nil, []api.Frame{{Epoch: own, Peer: 9}}},
		{api.Frame{Epoch: 9, Peer: own, Seq: 3, Body: "b"}, nil, []api.Frame{{Epoch: own, Peer: 9}}},
		{api.Frame{Epoch: 9, Peer: 0}, nil, []api.Frame{{Epoch: own, Peer: 9}}},
	} {
		l := met(t)
		wantTake(t, l, said(1, 0, "a"), []string{"a"}, false)
		wantTake(t, l, said(2, 0, "b"), []string{"b"}, false)
		sendUpTo(t, l, 1, 3)
		wantOut(t, l, puts(1, 3, 2)...)
		wantTake(t, l, c.f, c.want, true)
		wantWaiting(t, l, 0)
		wantPeer(t, l, 9)
		wantOut(t, l, c.out...)
	}
}

// P9.3: what an end owed ahead of a RESET it owes still.
func TestResetAndWhatIsOwed(t *testing.T) {
	l := met(t)
	wantTake(t, l, said(1, 0, "a"), []string{"a"}, false)
	wantTake(t, l, api.Frame{Epoch: 9, Peer: own}, nil, true)
	wantOut(t, l, api.Frame{Epoch: own, Peer: 9})
	wantOut(t, l)
}

// P9.3: Ticks that were counted ahead of a RESET count for nothing.
func TestResetAndTicks(t *testing.T) {
	for n := range 3 {
		l := met(t)
		sendUpTo(t, l, 1, 2)
		l.Out()
		ticks(l, n)
		wantTake(t, l, api.Frame{Epoch: 9, Peer: own}, nil, true)
		sendUpTo(t, l, 1, 1)
		one := api.Frame{Epoch: own, Peer: 9, Seq: 1, Body: "m1"}
		wantOut(t, l, one)
		ticks(l, 2)
		wantOut(t, l)
		l.Tick()
		wantOut(t, l, one)
	}
}

// P9.3: a full end has room again behind a RESET.
func TestResetOfAFullEnd(t *testing.T) {
	l := met(t)
	sendUpTo(t, l, 1, 32)
	wantTake(t, l, api.Frame{Epoch: other + 1}, nil, true)
	wantWaiting(t, l, 0)
	sendUpTo(t, l, 1, 32)
	if e := l.Send("a"); e != api.ErrFull {
		t.Errorf("Send: %d", e)
	}
}

// P9.3: RESETS one behind the other; a frame of the same Epoch is none.
func TestResets(t *testing.T) {
	l := made(t, own)
	wantTake(t, l, api.Frame{Epoch: 1}, nil, false)
	for epoch := 2; epoch < 9; epoch++ {
		for _, reset := range []bool{true, false, false} {
			wantTake(t, l, api.Frame{Epoch: epoch}, nil, reset)
			wantTake(t, l, api.Frame{Epoch: epoch - 1}, nil, false)
			wantPeer(t, l, epoch)
		}
	}
}

// P9.3: of a frame to another epoch nothing is taken, no body and no acknowledgement; a frame is owed.
func TestTakeOfAFrameToAnotherEpoch(t *testing.T) {
	for _, peer := range []int{0, 1, own - 1, own + 1, other, great} {
		l := met(t)
		sendUpTo(t, l, 1, 3)
		wantOut(t, l, puts(1, 3, 0)...)
		ticks(l, 2)
		for _, f := range []api.Frame{{}, {Ack: 1}, {Ack: 3}, {Seq: 1, Body: "a"}, {Seq: 1, Ack: 2, Body: "a"}, {Seq: 7}} {
			f.Epoch, f.Peer = other, peer
			wantTake(t, l, f, nil, false)
			wantPeer(t, l, other)
			wantWaiting(t, l, 3)
			wantOut(t, l, put(0, 0, ""))
			wantOut(t, l)
		}
		l.Tick()
		wantOut(t, l, puts(1, 3, 0)...)
		wantTake(t, l, said(1, 0, "a"), []string{"a"}, false)
	}
}

// P9.3: an Ack takes away the bodies up to its number, if so many were put out; else it is not looked at.
func TestAcknowledgement(t *testing.T) {
	for sent := range 12 {
		for ack := range 14 {
			for _, again := range []bool{false, true} {
				l := met(t)
				sendUpTo(t, l, 1, sent)
				wantOut(t, l, puts(1, min(sent, 8), 0)...)
				if again {
					ticks(l, 3) // due again, and yet put out
				}
				want := sent
				if ack <= min(sent, 8) {
					want -= ack
				}
				wantTake(t, l, said(0, ack, ""), nil, false)
				wantWaiting(t, l, want)
			}
		}
	}
	for _, ack := range []int{1, 2, 9, 1 << 31, great} {
		l := met(t)
		sendUpTo(t, l, 1, 1) // not put out so far
		wantTake(t, l, said(0, ack, ""), nil, false)
		wantWaiting(t, l, 1)
		wantOut(t, l, put(1, 0, "m1"))
	}
}

// P9.3: numbers go on behind those that were acknowledged; an Ack of those is of nothing, and of one too many still is.
func TestAcknowledgementsGoOn(t *testing.T) {
	l := met(t)
	for k := 1; k <= 100; k++ {
		sendUpTo(t, l, k, k)
		wantTake(t, l, said(0, k, ""), nil, false)
		wantWaiting(t, l, 1)
		wantOut(t, l, puts(k, k, 0)...)
		for _, ack := range []int{0, k / 2, k - 1, k + 1, k + 2, great} {
			wantTake(t, l, said(0, ack, ""), nil, false)
			wantWaiting(t, l, 1)
		}
		wantTake(t, l, said(0, k, ""), nil, false)
		wantWaiting(t, l, 0)
		wantOut(t, l)
	}
}

// P9.3: an Ack alone has nothing be owed.
func TestAcknowledgementIsNotOwedAFrame(t *testing.T) {
	l := met(t)
	sendUpTo(t, l, 1, 2)
	l.Out()
	for _, ack := range []int{0, 1, 2, 3} {
		wantTake(t, l, said(0, ack, ""), nil, false)
		wantOut(t, l)
	}
}

// P9.3: the body behind the last one that was taken is taken, and told; one that was taken already, and one too far, are not; of each a frame is owed.
func TestBodies(t *testing.T) {
	l := met(t)
	for k := 1; k <= 20; k++ {
		body := fmt.Sprintf("b%d", k)
		for _, seq := range []int{k + 1, k + 2, k + 7, great, max(k-1, 1) + 100} {
			wantTake(t, l, said(seq, 0, body), nil, false)
			wantOut(t, l, put(0, k-1, ""))
			wantOut(t, l)
		}
		wantTake(t, l, said(k, 0, body), []string{body}, false)
		wantOut(t, l, put(0, k, ""))
		wantOut(t, l)
		for seq := 1; seq <= k; seq++ {
			wantTake(t, l, said(seq, 0, "another"), nil, false)
			wantOut(t, l, put(0, k, ""))
			wantOut(t, l)
		}
		wantTake(t, l, said(0, 0, ""), nil, false)
		wantOut(t, l)
	}
}

// P9.3: bodies of all sizes are told, also one of nothing.
func TestBodiesOfAllSizes(t *testing.T) {
	l := met(t)
	for i, body := range []string{"", "\x00", "\xff\xfe", "é", strings.Repeat("x", api.MaxText), ""} {
		wantTake(t, l, said(i+1, 0, body), []string{body}, false)
	}
}

// P9.3: a body and an Ack come in one frame, the body too if the Ack is one that is not looked at, and the other way round.
func TestBodyAndAcknowledgement(t *testing.T) {
	for _, c := range []struct {
		seq, ack int
		taken    bool
		waiting  int
	}{
		{1, 2, true, 1}, {1, 3, true, 0}, {1, 4, true, 3}, {2, 2, false, 1}, {2, 9, false, 3}, {1, 0, true, 3},
	} {
		l := met(t)
		sendUpTo(t, l, 1, 3)
		wantOut(t, l, puts(1, 3, 0)...)
		var want []string
		if c.taken {
			want = []string{"a"}
		}
		wantTake(t, l, said(c.seq, c.ack, "a"), want, false)
		wantWaiting(t, l, c.waiting)
		wantOut(t, l, put(0, len(want), ""))
	}
}
