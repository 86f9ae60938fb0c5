package crc_test

import (
	"hash/crc32"
	"slices"
	"strings"
	"sync"
	"testing"

	"carillon/api"
	"carillon/crc"
)

// P2.4: More of Sum(a) and b is Sum of both, and both are what others call by this name.
func TestMoreIsTheSumOfBoth(t *testing.T) {
	known := crc32.MakeTable(crc32.Castagnoli)
	for _, a := range texts() {
		for _, b := range texts() {
			got, both := crc.More(crc.Sum(a), b), crc.Sum(a+b)
			if want := crc32.Checksum([]byte(a+b), known); got != want || both != want {
				t.Errorf("%q, %q: More %08X, Sum %08X; want %08X", a, b, got, both, want)
			}
		}
	}
}

// frames tells the bodies as frames, and where each of them ends.
func frames(t *testing.T, bodies []string) (s string, ends []int) {
	t.Helper()
	for _, body := range bodies {
		frame, e := crc.Frame(body)
		if e != api.OK {
			t.Fatalf("Frame(%q): %d", brief(body), e)
		}
		s += frame
		ends = append(ends, len(s))
	}
	return s, ends
}

// P2.4: All of frames are their bodies; of a beginning those that are all there.
func TestAllOfABeginning(t *testing.T) {
	for _, bodies := range [][]string{nil, {""}, {"ab"}, {"", "", ""}, {"a", "", "bcd", "\xff\x00"}, texts()} {
		s, ends := frames(t, bodies)
		for at := 0; at <= len(s); at++ {
			whole := 0
			for whole < len(ends) && ends[whole] <= at {
				whole++
			}
			used := 0
			if whole > 0 {
				used = ends[whole-1]
			}
			fault := api.OK
			if at > used {
				fault = api.ErrShort
			}
			wantAll(t, s[:at], bodies[:whole], used, fault)
		}
	}
}

// turned is s with the bit at that place turned.
func turned(s string, bit int) string {
	b := []byte(s)
	b[bit/8] ^= 1 << (bit % 8)
	return string(b)
}

// P2.4: a frame with one bit turned is none, by its sum. (Of the length's bits nothing is promised; of these small frames none is taken.)
func TestOneBitTurned(t *testing.T) {
	for _, body := range []string{"", "a", "ab", "\x00", "\xff\xff\xff", "123456789", strings.Repeat("\x00", 40)} {
		frame, _ := crc.Frame(body)
		for bit := 32; bit < 8*len(frame); bit++ {
			wantTake(t, turned(frame, bit), "", 0, api.ErrSum)
			wantAll(t, frame+turned(frame, bit)+frame, []string{body}, len(frame), api.ErrSum)
		}
		for bit := range 32 {
			if got, size, e := crc.Take(turned(frame, bit)); e == api.OK || got != "" || size != 0 {
				t.Errorf("%q, bit %d: %q, %d, %d", body, bit, got, size, e)
			}
		}
	}
}

// P2.4: bits of a great frame that are far from each other.
func TestOneBitTurnedOfMuch(t *testing.T) {
	body := strings.Repeat("carillon", api.MaxFrame/8)
	frame, e := crc.Frame(body)
	if e != api.OK || len(frame) != api.MaxFrame+8 {
		t.Fatal(len(frame), e)
	}
	for _, bit := range []int{32, 63, 64, 65, 4 * len(frame), 8*len(frame) - 1} {
		wantTake(t, turned(frame, bit), "", 0, api.ErrSum)
	}
}

// P3: an answer's list is new memory, spare room too, even beside an error.
func TestListsAreNewMemory(t *testing.T) {
	s, _ := frames(t, []string{"a", "b", "c"})
	for _, tail := range []string{"", "\x00"} {
		first, _, _ := crc.All(s + tail)
		second, _, _ := crc.All(s + tail)
		want := slices.Clone(second)
		first = first[:cap(first)]
		for i := range first {
			first[i] = "spoilt"
		}
		third, _, _ := crc.All(s + tail)
		if !slices.Equal(second, want) || !slices.Equal(third, want) {
			t.Errorf("%q, %q; want %q", second, third, want)
		}
	}
}

// P3: a body of an answer is no piece of what was handed in: each is made.
func TestBodiesAreNewMemory(t *testing.T) {
	const n = 100
	full, _ := frames(t, slices.Repeat([]string{"ab"}, n))
	none, _ := frames(t, make([]string, n))
	made := testing.AllocsPerRun(5, func() { crc.All(full) })
	without := testing.AllocsPerRun(5, func() { crc.All(none) })
	if made-without < n {
		t.Errorf("%v pieces of memory for %d bodies, %v for as many of nothing", made, n, without)
	}
	if made := testing.AllocsPerRun(5, func() { crc.Take(full) }); made < 1 {
		t.Errorf("%v pieces of memory for a body", made)
	}
}

// P4: the same arguments, the same answer, whatever was asked between and beside it.
func TestAnswersHangOnArgumentsAlone(t *testing.T) {
	s, _ := frames(t, []string{"ab", "", "cd"})
	var all sync.WaitGroup
	for range 8 {
		all.Go(func() {
			for range 50 {
				wantAll(t, s, []string{"ab", "", "cd"}, len(s), api.OK)
				wantAll(t, s[1:], nil, 0, api.ErrShort)
				wantTake(t, s, "ab", 10, api.OK)
				wantFrame(t, "ab", s[:10], api.OK)
				if got := crc.Sum("123456789"); got != 0xE3069283 {
					t.Errorf("%08X", got)
				}
			}
		})
	}
	all.Wait()
}

// P1, P2.3, P2.4: whatever the bytes, All ends, its bodies make what was used, and what is left over begins with no frame.
func FuzzAll(f *testing.F) {
	f.Add("")
	f.Add("\x00\x00\x00\x00\x48\x67\x4b\xc7")
	f.Add(plainFrame("ab") + plainFrame("") + "\x00\x00")
	f.Add(plainFrame("ab") + "\x00\x06\x1a\x81")
	f.Fuzz(func(t *testing.T, s string) {
		bodies, used, e := crc.All(s)
		if made, _ := frames(t, bodies); made != s[:used] {
			t.Errorf("%d bodies are %q, %d bytes are %q", len(bodies), made, used, s[:used])
		}
		if (used == len(s)) != (e == api.OK) {
			t.Errorf("%d of %d bytes, %d", used, len(s), e)
		}
		if e != api.OK {
			wantTake(t, s[used:], "", 0, e)
		}
	})
}
