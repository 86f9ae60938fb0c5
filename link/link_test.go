package link_test

import (
	"math"
	"strconv"
	"strings"
	"testing"

	"carillon/api"
	"carillon/link"
)

// P9.1 to P9.3: the chapter's example, line by line.
func TestExample(t *testing.T) {
	a, b := made(t, 1), made(t, 1)
	if e := a.Send("x"); e != api.OK {
		t.Errorf("Send: %d", e)
	}
	wantOut(t, a, api.Frame{Epoch: 1})
	wantTake(t, b, api.Frame{Epoch: 1}, nil, false)
	wantOut(t, b, api.Frame{Epoch: 1, Peer: 1})
	wantTake(t, a, api.Frame{Epoch: 1, Peer: 1}, nil, false)
	x := api.Frame{Epoch: 1, Peer: 1, Seq: 1, Body: "x"}
	wantOut(t, a, x)
	wantTake(t, b, x, []string{"x"}, false)
	wantTake(t, b, x, nil, false)
	wantOut(t, b, api.Frame{Epoch: 1, Peer: 1, Ack: 1})
}

// P9.1: an epoch is 1 to 2^53 - 1; the end knows no peer, has nothing to send, has taken nothing, and owes a frame.
func TestNew(t *testing.T) {
	for _, epoch := range []int{1, 2, 1 << 31, 1 << 32, great - 1, great} {
		l := made(t, epoch)
		wantPeer(t, l, 0)
		wantWaiting(t, l, 0)
		wantOut(t, l, api.Frame{Epoch: epoch})
		wantOut(t, l)
		wantTake(t, l, api.Frame{Epoch: 1, Peer: epoch, Seq: 1, Body: "a"}, []string{"a"}, false)
		wantOut(t, l, api.Frame{Epoch: epoch, Peer: 1, Ack: 1})
	}
	for _, epoch := range []int{0, -1, -2, -great, math.MinInt, great + 1, great + 2, math.MaxInt} {
		if l, e := link.New(epoch); l != nil || e != api.ErrArg {
			t.Errorf("New(%d): %v, %d", epoch, l, e)
		}
	}
}

// P9.1: a body of up to MaxText bytes waits, whatever its bytes; also one of none.
func TestSendBodies(t *testing.T) {
	all := []string{"a", "", "a", "\x00\xff\xfe", "é\n", strings.Repeat("x", api.MaxText-1), strings.Repeat("x", api.MaxText)}
	l := met(t)
	var want []api.Frame
	for i, s := range all {
		if e := l.Send(s); e != api.OK {
			t.Errorf("Send of %d bytes: %d", len(s), e)
		}
		wantWaiting(t, l, i+1)
		want = append(want, put(i+1, 0, s))
	}
	wantOut(t, l, want...)
}

// P9.1: a body that is too long is refused, also where there is no room for it, and nothing has changed.
func TestSendTooLong(t *testing.T) {
	for _, size := range []int{api.MaxText + 1, api.MaxText + 2, 2 * api.MaxText, api.MaxFrame + 1} {
		body := strings.Repeat("x", size)
		unchanged(t, "Send of "+strconv.Itoa(size), func(l *link.Link) {
			if e := l.Send(body); e != api.ErrLong {
				t.Errorf("Send of %d bytes: %d", size, e)
			}
		})
	}
}

// P9.1: MaxUnsent bodies may wait, whether they were put out or not; those that were acknowledged do not.
func TestSendFull(t *testing.T) {
	full := func(l *link.Link) {
		t.Helper()
		wantWaiting(t, l, api.MaxUnsent)
		for _, s := range []string{"", "a", strings.Repeat("x", api.MaxText)} {
			if e := l.Send(s); e != api.ErrFull {
				t.Errorf("Send: %d", e)
			}
		}
		wantWaiting(t, l, api.MaxUnsent)
	}
	l := made(t, own)
	sendUpTo(t, l, 1, 32)
	full(l)
	wantTake(t, l, said(0, 0, ""), nil, false)
	full(l)
	wantOut(t, l, puts(1, 8, 0)...)
	full(l)
	wantTake(t, l, said(0, 3, ""), nil, false)
	wantWaiting(t, l, 29)
	sendUpTo(t, l, 33, 35)
	full(l)
	wantOut(t, l, puts(9, 11, 0)...)
	full(l)
}

// P9.1: what a full end refuses is not sent later.
func TestWhatIsRefusedIsGone(t *testing.T) {
	l := met(t)
	sendUpTo(t, l, 1, 32)
	if e := l.Send("refused"); e != api.ErrFull {
		t.Errorf("Send: %d", e)
	}
	for k := 1; k <= 32; k += 8 {
		wantOut(t, l, puts(k, k+7, 0)...)
		wantTake(t, l, said(0, k+7, ""), nil, false)
	}
	wantWaiting(t, l, 0)
	wantOut(t, l)
	sendUpTo(t, l, 33, 33)
	wantOut(t, l, puts(33, 33, 0)...)
}

// P9.1: Waiting tells of the bodies that were put out and of those that were not, till they are acknowledged.
func TestWaiting(t *testing.T) {
	l := met(t)
	for k := 1; k <= 12; k++ {
		sendUpTo(t, l, k, k)
		wantWaiting(t, l, k)
	}
	l.Out()
	wantWaiting(t, l, 12)
	ticks(l, 7)
	wantWaiting(t, l, 12)
	for ack := range 9 {
		wantTake(t, l, said(0, ack, ""), nil, false)
		wantWaiting(t, l, 12-ack)
	}
}

// P9.2: without a peer that is known no body is put out, but a frame, if one is owed: by the end's beginning, and by each Tick.
func TestOutWithoutAPeer(t *testing.T) {
	for _, bodies := range []int{0, 1, 9, 32} {
		l := made(t, own)
		sendUpTo(t, l, 1, bodies)
		none := api.Frame{Epoch: own}
		wantOut(t, l, none)
		wantOut(t, l)
		for range 7 {
			l.Tick()
			wantOut(t, l, none)
			wantOut(t, l)
		}
		ticks(l, 5)
		wantOut(t, l, none)
		wantOut(t, l)
		wantWaiting(t, l, bodies)
		wantTake(t, l, said(0, 0, ""), nil, false)
		wantOut(t, l, puts(1, min(bodies, 8), 0)...)
	}
}

// P9.2: with a peer no Tick has it owe a frame.
func TestTickWithAPeer(t *testing.T) {
	l := met(t)
	for range 10 {
		l.Tick()
		wantOut(t, l)
	}
}

// P9.2: what an end owes of the time ahead of its peer is owed still, till the next Out, whatever that puts out.
func TestOwesOnce(t *testing.T) {
	l := made(t, own)
	wantTake(t, l, said(0, 0, ""), nil, false)
	wantOut(t, l, put(0, 0, ""))
	wantOut(t, l)
	l = made(t, own)
	sendUpTo(t, l, 1, 2)
	wantTake(t, l, said(1, 0, "a"), []string{"a"}, false)
	wantOut(t, l, puts(1, 2, 1)...)
	wantOut(t, l)
	wantTake(t, l, said(2, 0, "b"), []string{"b"}, false)
	sendUpTo(t, l, 3, 3)
	wantOut(t, l, puts(3, 3, 2)...)
	wantOut(t, l)
	wantTake(t, l, said(3, 0, "c"), []string{"c"}, false)
	wantOut(t, l, put(0, 3, ""))
	wantOut(t, l)
}

// P9.2: the first MaxWindow bodies that wait are put out, each once, and those behind them as the others are acknowledged.
func TestWindow(t *testing.T) {
	for bodies := range 12 {
		l := met(t)
		sendUpTo(t, l, 1, bodies)
		wantOut(t, l, puts(1, min(bodies, 8), 0)...)
		wantOut(t, l)
	}
	l := met(t)
	sendUpTo(t, l, 1, 1)
	wantOut(t, l, puts(1, 1, 0)...)
	sendUpTo(t, l, 2, 7)
	wantOut(t, l, puts(2, 7, 0)...)
	sendUpTo(t, l, 8, 9)
	wantOut(t, l, puts(8, 8, 0)...)
	wantOut(t, l)
	wantTake(t, l, said(0, 1, ""), nil, false)
	wantOut(t, l, puts(9, 9, 0)...)
	sendUpTo(t, l, 10, 33)
	wantOut(t, l)
	for ack := 4; ack < 33; ack += 3 {
		wantTake(t, l, said(0, ack, ""), nil, false)
		wantOut(t, l, puts(max(10, ack+6), min(ack+8, 33), 0)...)
		wantOut(t, l)
	}
}

// P9.2: each frame tells the last body that was taken by then, also one that is put out again.
func TestAckOfFrames(t *testing.T) {
	l := met(t)
	sendUpTo(t, l, 1, 2)
	wantOut(t, l, puts(1, 2, 0)...)
	wantTake(t, l, said(1, 0, "a"), []string{"a"}, false)
	wantTake(t, l, said(2, 0, "b"), []string{"b"}, false)
	wantTake(t, l, said(4, 0, "d"), nil, false)
	ticks(l, 3)
	wantOut(t, l, puts(1, 2, 2)...)
	wantTake(t, l, said(3, 0, "c"), []string{"c"}, false)
	wantOut(t, l, put(0, 3, ""))
}

// P9.2: with the third Tick since the first one was put out all that were put out are due again; those put out late too.
func TestResendSinceTheFirst(t *testing.T) {
	for late := range 3 {
		l := met(t)
		ticks(l, 5) // of nothing: these count for nothing
		sendUpTo(t, l, 1, 1)
		ticks(l, 2) // nor do these
		wantOut(t, l, puts(1, 1, 0)...)
		for k := range 3 {
			wantOut(t, l)
			if k == late {
				sendUpTo(t, l, 2, 3)
				wantOut(t, l, puts(2, 3, 0)...)
			}
			l.Tick()
		}
		wantOut(t, l, puts(1, 3, 0)...)
		wantOut(t, l)
	}
}

// P9.2: then with each third Tick since the last RESENDING, whenever they were put out again.
func TestResendSinceTheLast(t *testing.T) {
	for late := range 3 {
		l := met(t)
		sendUpTo(t, l, 1, 9)
		wantOut(t, l, puts(1, 8, 0)...)
		ticks(l, 3)
		for range 4 {
			ticks(l, late)
			wantOut(t, l, puts(1, 8, 0)...)
			ticks(l, 2-late)
			wantOut(t, l)
			l.Tick()
		}
	}
	l := met(t)
	sendUpTo(t, l, 1, 2)
	wantOut(t, l, puts(1, 2, 0)...)
	ticks(l, 8) // two RESENDINGS, and two Ticks: what is due twice is put out once
	sendUpTo(t, l, 3, 3)
	wantOut(t, l, puts(1, 3, 0)...)
	wantOut(t, l)
	l.Tick()
	wantOut(t, l, puts(1, 3, 0)...)
}

// P9.2: an acknowledgement that takes some away has the Ticks be counted anew; one that takes none away has not.
func TestResendSinceAnAcknowledgement(t *testing.T) {
	for since := range 3 {
		l := met(t)
		sendUpTo(t, l, 1, 5)
		wantOut(t, l, puts(1, 5, 0)...)
		ticks(l, since)
		wantTake(t, l, said(0, 2, ""), nil, false)
		ticks(l, 2)
		wantOut(t, l)
		wantTake(t, l, said(0, 2, ""), nil, false) // nothing more
		wantTake(t, l, said(0, 1, ""), nil, false)
		wantTake(t, l, said(0, 6, ""), nil, false) // more than was put out
		wantOut(t, l)
		l.Tick()
		wantOut(t, l, puts(3, 5, 0)...)
		ticks(l, 2)
		wantTake(t, l, said(0, 3, ""), nil, false)
		ticks(l, 2)
		wantOut(t, l)
		l.Tick()
		wantOut(t, l, puts(4, 5, 0)...)
	}
}

// P9.2: what stays due when others are acknowledged behind a RESENDING is put out.
func TestAcknowledgementBehindAResending(t *testing.T) {
	l := met(t)
	sendUpTo(t, l, 1, 10)
	wantOut(t, l, puts(1, 8, 0)...)
	ticks(l, 3)
	wantTake(t, l, said(0, 3, ""), nil, false)
	wantOut(t, l, puts(4, 10, 0)...)
	ticks(l, 2)
	wantOut(t, l)
	l.Tick()
	wantOut(t, l, puts(4, 10, 0)...)
}

// P9.2: when all are acknowledged no Tick counts, till the next one is put out.
func TestResendOfNewOnes(t *testing.T) {
	for idle := range 4 {
		l := met(t)
		sendUpTo(t, l, 1, 2)
		wantOut(t, l, puts(1, 2, 0)...)
		ticks(l, 2)
		wantTake(t, l, said(0, 2, ""), nil, false)
		ticks(l, idle)
		sendUpTo(t, l, 3, 4)
		ticks(l, idle)
		wantOut(t, l, puts(3, 4, 0)...)
		ticks(l, 2)
		wantOut(t, l)
		l.Tick()
		wantOut(t, l, puts(3, 4, 0)...)
	}
}
