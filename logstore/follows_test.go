package logstore_test

import (
	"fmt"
	"math"
	"slices"
	"strings"
	"testing"
	"unsafe"

	"carillon/api"
	"carillon/disk"
	"carillon/logstore"
)

// lent is a text whose bytes the caller goes on to write into.
func lent(b []byte) string { return unsafe.String(unsafe.SliceData(b), len(b)) }

// spoil writes over a list and its spare room.
func spoil[T any](l []T, x T) {
	l = l[:cap(l)]
	for i := range l {
		l[i] = x
	}
}

// P3: nothing that was handed in is kept: what is written over it is not told.
func TestNothingHandedInIsKept(t *testing.T) {
	d := laid(t, 20000, nil)
	topic, word := []byte("tt"), []byte("abc")
	x := opened(t, d, lent(topic), 1)
	for n := range 3 {
		if e := x.Append(api.Record{Offset: n, Producer: lent(word), Key: lent(word), Value: lent(word)}); e != api.OK {
			t.Fatal(e)
		}
	}
	l := []api.Record{{Offset: 1, Producer: lent(word), Key: lent(word), Value: lent(word)}, rec(77), rec(78)}
	if e := x.Swap(1, l[:1]); e != api.OK {
		t.Fatal(e)
	}
	if l[1] != rec(77) || l[2] != rec(78) || string(word) != "abc" || string(topic) != "tt" || l[0].Offset != 1 {
		t.Error("written into:", l, string(word), string(topic))
	}
	copy(topic, "!!")
	copy(word, "!!!")
	spoil(l, rec(9))
	want := make([]api.Record, 3)
	for n := range want {
		want[n] = api.Record{Offset: n, Producer: "abc", Key: "abc", Value: "abc"}
	}
	for range 2 {
		if got, e := x.Read(0, 9); !slices.Equal(got, want) || e != api.OK {
			t.Errorf("%v, %d", got, e)
		}
		x = opened(t, d, "tt", 1)
	}
	if e := max(x.Append(rec(5)), x.Trim(1), x.Sync()); e != api.OK {
		t.Error(e)
	}
	for name := range found(t, d) {
		if !strings.HasPrefix(name, "tt.") {
			t.Errorf("%q", name)
		}
	}
}

// P3: what is told is new memory, spare room too, and stays as it was told.
func TestAnswersAreNewMemory(t *testing.T) {
	_, x := trimmed(t)
	was := tells(t, x)
	for range 2 {
		l, _ := x.Read(0, 9)
		other, _ := x.Read(0, 9)
		if unsafe.StringData(l[0].Value) == unsafe.StringData(other[0].Value) {
			t.Error("two answers share their bytes")
		}
		spoil(l, rec(99))
		spoil(x.Segments(), api.Segment{Base: -1, Gen: -1, Size: -1})
		if !slices.Equal(other, was.records) || !tells(t, x).same(was) {
			t.Errorf("%v; was %v", tells(t, x), was)
		}
	}
	segments, l := x.Segments(), tells(t, x).records
	if e := max(x.Append(rec(10)), x.Append(rec(11)), x.Swap(1, nil), x.Trim(4)); e != api.OK {
		t.Fatal(e)
	}
	if !slices.Equal(segments, was.segments) || !slices.Equal(l, was.records) {
		t.Errorf("%v, %v; were %v", segments, offsets(l), was)
	}
}

// P4: logs that are played the same tell the same, whatever is done with others beside them.
func TestAnswersHangOnTheLogAlone(t *testing.T) {
	for seed := range uint32(6) {
		t.Run(fmt.Sprint(seed), func(t *testing.T) {
			t.Parallel()
			for range 2 {
				script(t, 3000, 60, bytesOf(seed%2, 200))
			}
		})
	}
}

// P4: two logs on two disks tell the same, call by call; two that are opened of one disk too, as long as nothing is done.
func TestSameLogsTellTheSame(t *testing.T) {
	d, x := trimmed(t)
	_, y := trimmed(t)
	z := opened(t, d, "t", 2*one)
	if a, b, c := tells(t, x), tells(t, y), tells(t, z); !a.same(b) || !a.same(c) {
		t.Errorf("%v, %v, %v", a, b, c)
	}
}

// P1, P2: whatever is asked, in whatever state, is answered, and beside an error there is nothing.
func TestAllArguments(t *testing.T) {
	numbers := []int{math.MinInt, math.MinInt + 1, -1, 0, 1, 2, 3, 9, 10, great - 1, great, great + 1, math.MaxInt - 1, math.MaxInt}
	for state, begin := range map[string]func() (*disk.Disk, *logstore.Log){
		"empty":    func() (*disk.Disk, *logstore.Log) { return filled(t, 1) },
		"some":     func() (*disk.Disk, *logstore.Log) { return trimmed(t) },
		"no limit": func() (*disk.Disk, *logstore.Log) { return filled(t, math.MaxInt, 0, 1, great) },
		"down": func() (*disk.Disk, *logstore.Log) {
			d, x := trimmed(t)
			d.Fuse(0)
			d.DirSync()
			return d, x
		},
		"full": func() (*disk.Disk, *logstore.Log) {
			d, x := trimmed(t)
			d.Create("fill")
			d.Append("fill", strings.Repeat("x", d.Free()))
			return d, x
		},
		"crowded": func() (*disk.Disk, *logstore.Log) {
			d, x := trimmed(t)
			crowd(t, d, 0)
			return d, x
		},
	} {
		for _, a := range numbers {
			d, x := begin()
			for _, b := range numbers {
				if l, e := x.Read(a, b); e != api.OK && len(l) != 0 || (e == api.ErrDown) != (state == "down") {
					t.Errorf("%s: Read(%d, %d): %v, %d", state, a, b, l, e)
				}
				x.Swap(a, recs(b))
				x.Swap(a, []api.Record{{Offset: b}, {Offset: b}})
			}
			x.Append(rec(a))
			x.Append(api.Record{Offset: great, Seq: a})
			x.Trim(a)
			x.Sync()
			if x.Low() > x.End() || len(x.Segments()) == 0 {
				t.Errorf("%s: Low %d, End %d, %v", state, x.Low(), x.End(), x.Segments())
			}
			for _, topic := range []string{"t", "", "T", strings.Repeat("t", 21)} {
				if y, e := logstore.Open(d, topic, a); (y == nil) != (e != api.OK) {
					t.Errorf("%s: Open(%q, %d): %v, %d", state, topic, a, y, e)
				}
			}
		}
	}
}

// P1: behind ErrDown its calls end.
func TestCallsEndBehindErrDown(t *testing.T) {
	for fuse := range 10 {
		for _, s := range scenes() {
			d, x := s.begin(t, s)
			if x == nil {
				continue
			}
			d.Fuse(fuse)
			s.do(d, x)
			for range 2 {
				x.Append(rec(x.End()))
				x.Read(0, 9)
				x.Trim(x.End())
				x.Swap(0, nil)
				x.Sync()
				x.Segments()
				x.Low()
				d.Crash(fuse, nil) // even where who has the log goes on with it
			}
		}
	}
}

// P7.2, P7.3: many records, of many sizes, over many segments: all come back, from each offset on.
func TestManyRecords(t *testing.T) {
	for _, limit := range []int{700, 4000, 1000000} {
		d := laid(t, 1000000, nil)
		x := opened(t, d, "t", limit)
		var want []api.Record
		for n := range 500 {
			r := api.Record{Offset: 3*n + n%2, Producer: "p", Seq: n, Key: strings.Repeat("k", n%101), Value: strings.Repeat("v", n*37%200)}
			if e := x.Append(r); e != api.OK {
				t.Fatal(e)
			}
			want = append(want, r)
		}
		for range 2 {
			for i := range want {
				if l, e := x.Read(want[i].Offset, 7); !slices.Equal(l, want[i:min(i+7, 500)]) || e != api.OK {
					t.Fatalf("from %d: %v, %d", i, offsets(l), e)
				}
			}
			x = opened(t, d, "t", limit)
		}
		segments := x.Segments()
		for i, s := range segments[:len(segments)-1] {
			if s.Size < limit || s.Size >= limit+400 || s.Base >= segments[i+1].Base {
				t.Errorf("segment %d: %v", i, s)
			}
		}
	}
}
