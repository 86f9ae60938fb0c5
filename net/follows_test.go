package net_test

import (
	"fmt"
	"math"
	"testing"
	"unsafe"

	"carillon/api"
)

// lent is a text whose bytes the caller goes on to write into.
func lent(b []byte) string { return unsafe.String(unsafe.SliceData(b), len(b)) }

// P3: nothing that was handed in is kept: what is written over it is not told.
func TestNothingHandedInIsKept(t *testing.T) {
	x := made(t, 2)
	b := []byte("abc")
	send(t, x, 0, 1, lent(b[:2]))
	if !x.Double(0, 1, 0) {
		t.Error("Double: false")
	}
	if string(b) != "abc" {
		t.Errorf("handed in: %q", b)
	}
	for i := range b {
		b[i] = '!'
	}
	wantOn(t, x, 0, 1, "ab", "ab")
}

// P3: what is told is new memory: a message and its double share none.
func TestAnswersAreNewMemory(t *testing.T) {
	x := made(t, 2)
	handed := "abc"
	send(t, x, 0, 1, handed)
	if !x.Double(0, 1, 0) {
		t.Error("Double: false")
	}
	one, _ := x.Take(0, 1, 0)
	two, _ := x.Take(0, 1, 0)
	if one != handed || two != handed {
		t.Errorf("%q, %q", one, two)
	}
	if unsafe.StringData(one) == unsafe.StringData(two) || unsafe.StringData(one) == unsafe.StringData(handed) || unsafe.StringData(two) == unsafe.StringData(handed) {
		t.Error("two of them share their bytes")
	}
}

// P3: what is told stays as it was told, whatever is done then.
func TestWhatIsToldStays(t *testing.T) {
	x := made(t, 2)
	send(t, x, 0, 1, numbered(api.MaxQueue)...)
	var told []string
	for range 10 {
		s, _ := x.Take(0, 1, 3)
		told = append(told, s)
		send(t, x, 0, 1, "new")
	}
	x.Clear(0)
	send(t, x, 0, 1, "newer")
	for i, s := range told {
		if s != numbered(20)[3+i] {
			t.Errorf("%d: %q", i, s)
		}
	}
}

// P4: two nets that are played the same tell the same, whatever is done with others beside them.
func TestAnswersHangOnTheNetAlone(t *testing.T) {
	for seed := range uint32(8) {
		t.Run(fmt.Sprint(seed), func(t *testing.T) {
			t.Parallel()
			for range 3 {
				script(t, 3, walk(seed%2, 400))
			}
		})
	}
}

// P5.1 to P5.4: long scripts of all calls, right and wrong, held against a plain net.
func TestWalks(t *testing.T) {
	for seed := range uint32(200) {
		script(t, int(seed%7)+1, walk(seed*7919, 1500))
	}
}

// P1, P2: whatever is asked is answered, and beside a no there is nothing; what no link has, no net tells.
func TestAllArguments(t *testing.T) {
	numbers := []int{math.MinInt, math.MinInt + 1, -64, -1, 0, 1, 2, 6, 7, 63, 64, 65, math.MaxInt - 1, math.MaxInt}
	for _, n := range []int{1, 2, 7} {
		x := filled(t, n)
		for _, side := range numbers {
			x.Cut(side)
			for _, from := range numbers {
				for _, to := range numbers {
					for _, i := range numbers {
						x.Send(from, to, "x")
						x.Double(from, to, i)
						x.Drop(from, to, i)
						if s, ok := x.Take(from, to, i); !ok && s != "" {
							t.Errorf("Take(%d, %d, %d): %q, false", from, to, i, s)
						}
						if k := x.Len(from, to); k < 0 || k > api.MaxQueue {
							t.Errorf("Len(%d, %d): %d", from, to, k)
						}
						x.Joined(from, to)
					}
				}
				x.Clear(from)
			}
		}
		if x.Nodes() != n {
			t.Errorf("Nodes: %d; want %d", x.Nodes(), n)
		}
	}
}

// P1, P5.1 to P5.4: scripts of all kinds, held against a plain net.
func FuzzScript(f *testing.F) {
	f.Add(uint8(2), []byte{0, 0, 1, 0, 200, 0, 1, 1, 240, 0, 0, 21, 130, 0, 1, 1, 255, 0, 0, 0})
	f.Add(uint8(0), walk(1, 50))
	f.Add(uint8(6), walk(2, 200))
	f.Fuzz(func(t *testing.T, n uint8, s []byte) {
		script(t, int(n)%7+1, s[:min(len(s), 8000)])
	})
}
