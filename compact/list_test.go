package compact_test

import (
	"math"
	"slices"
	"strings"
	"testing"

	"carillon/api"
	"carillon/compact"
)

// wantParted holds Keep and Gone against what they must tell, field by field.
func wantParted(t *testing.T, l []api.Record, upto int, stay []api.Record, gone []int) {
	t.Helper()
	if got := compact.Keep(l, upto); !slices.Equal(got, stay) {
		t.Errorf("Keep(%s; %d): %s; want %s", written(l), upto, written(got), written(stay))
	}
	if got := compact.Gone(l, upto); !slices.Equal(got, gone) {
		t.Errorf("Gone(%s; %d): %v; want %v", written(l), upto, got, gone)
	}
}

// P8.1: the chapter's examples, lists of several keys, in any order of Offsets, upto at, below and above them, and below 0.
func TestKeepAndGone(t *testing.T) {
	for _, c := range []struct {
		l    string
		upto int
		stay string
		gone []int
	}{
		{"a0 b1 a2", 9, "b1 a2", []int{0}},
		{"a0 a1 a2", 1, "a1 a2", []int{0}},

		{"", 9, "", nil}, {"", 0, "", nil}, {"", -1, "", nil},
		{"a0", 9, "a0", nil}, {"-0", 9, "-0", nil},
		{"a0 b1 c2", 9, "a0 b1 c2", nil},

		{"-0 -1 -2", 9, "-0 -1 -2", nil},
		{"-0 a1 -2 a3 -4", 9, "-0 -2 a3 -4", []int{1}},
		{"a0 -1 -2", 9, "a0 -1 -2", nil},

		{"a0 a1", 0, "a0 a1", nil}, {"a0 a1", 1, "a1", []int{0}}, {"a0 a1", 2, "a1", []int{0}}, {"a0 a1", -1, "a0 a1", nil},
		{"a3 a5 a7", 3, "a3 a5 a7", nil}, {"a3 a5 a7", 4, "a5 a7", []int{3}}, {"a3 a5 a7", 5, "a5 a7", []int{3}}, {"a3 a5 a7", 6, "a7", []int{3, 5}},
		{"a3 a5 a7", 7, "a7", []int{3, 5}}, {"a3 a5 a7", 8, "a7", []int{3, 5}}, {"a3 a5 a7", math.MaxInt, "a7", []int{3, 5}},
		{"a3 a5 a7", 2, "a3 a5 a7", nil}, {"a3 a5 a7", 0, "a3 a5 a7", nil}, {"a3 a5 a7", math.MinInt, "a3 a5 a7", nil},

		{"a0 b1 a2 b3 c4 a5 -6 b7", 9, "c4 a5 -6 b7", []int{0, 1, 2, 3}},
		{"a0 b1 a2 b3 c4 a5 -6 b7", 2, "a2 b3 c4 a5 -6 b7", []int{0, 1}},
		{"a0 b1 a2 b3 c4 a5 -6 b7", 3, "b3 c4 a5 -6 b7", []int{0, 1, 2}},

		{"a9 a5 a7", 9, "a9 a7", []int{5}}, {"a9 a5 a7", 10, "a7", []int{9, 5}}, {"a9 a5 a7", 5, "a9 a5 a7", nil}, {"a9 a5 a7", 6, "a9 a7", []int{5}},
		{"b4 a3 b2 a1", 4, "b4 b2 a1", []int{3}}, {"b4 a3 b2 a1", 5, "b2 a1", []int{4, 3}}, {"b4 a3 b2 a1", 3, "b4 a3 b2 a1", nil},
		{"a5 a5 a5", 6, "a5", []int{5, 5}}, {"a5 b5 a5", 6, "b5 a5", []int{5}}, {"a5 a5 a5", 5, "a5 a5 a5", nil},

		{"a~3 a~1 a0", -1, "a~1 a0", []int{-3}}, {"a~3 a~1 a0", 0, "a0", []int{-3, -1}}, {"a~3 a~1 a0", -3, "a~3 a~1 a0", nil},
		{"a9007199254740991 a0", 9007199254740991, "a9007199254740991 a0", nil}, {"a9007199254740991 a0", math.MaxInt, "a0", []int{great}},
		{"a9223372036854775807 a0", math.MaxInt, "a9223372036854775807 a0", nil},

		{"a0 A1 aa2 a3 A4", 9, "aa2 a3 A4", []int{0, 1}},
	} {
		wantParted(t, list(c.l), c.upto, list(c.stay), c.gone)
	}
}

// P8.1: keys are the same by all their bytes.
func TestKeysByTheirBytes(t *testing.T) {
	long := strings.Repeat("k", api.MaxKey)
	keys := []string{"a", "a\x00", "\x00a", "\x00", " ", "\xff", "é", "e\u0301", long, long[1:], long + "k", long[1:] + "l", "-"}
	var l, again []api.Record
	for i, key := range keys {
		l = append(l, rec(i, key))
		again = append(again, rec(100+i, key))
	}
	wantParted(t, l, 1000, l, nil)
	for i := range keys {
		stay := append(slices.Delete(slices.Clone(l), i, i+1), again[i])
		wantParted(t, append(slices.Clone(l), again[i]), 1000, stay, []int{i})
	}
	all := slices.Concat(l, again)
	wantParted(t, all, 1000, again, []int{0, 1, 2, 3, 4, 5, 6, 7, 8, 9, 10, 11, 12})
}

// P8.1: nothing but Key, Offset and place is asked: records that are not right, and whose other fields are the same or are not, are told as they are.
func TestOtherFieldsAreTold(t *testing.T) {
	long := strings.Repeat("v", api.MaxValue+1)
	l := []api.Record{{Offset: 1, Producer: long, Seq: -5, Key: "a", Value: long}, {Offset: 1, Producer: long, Seq: -5, Key: "b", Value: long}, {Offset: 1, Seq: math.MaxInt, Key: "a"}, {}, {}, {Key: "b"}}
	wantParted(t, l, 9, l[2:], []int{1, 1})
	wantParted(t, l, 1, l, nil)
	same := api.Record{Offset: 1, Producer: "p", Seq: 2, Key: "k", Value: "v"}
	wantParted(t, []api.Record{same, same, same}, 9, []api.Record{same}, []int{1, 1})
}

// P8.1: all short lists of three keys and of Offsets of all orders, with each upto.
func TestAllShortLists(t *testing.T) {
	keys := []string{"", "a", "b"}
	var grow func(l []api.Record)
	grow = func(l []api.Record) {
		for upto := -1; upto <= 4; upto++ {
			stay, gone := parted(l, upto)
			wantParted(t, l, upto, stay, gone)
		}
		if t.Failed() {
			t.FailNow()
		}
		if len(l) == 4 {
			return
		}
		for n := range 4 {
			for _, key := range keys {
				grow(append(l[:len(l):len(l)], rec(n, key)))
			}
		}
	}
	grow(nil)
}

// P8.1: a long list of many keys.
func TestLongList(t *testing.T) {
	var l []api.Record
	seed := uint32(1)
	for n := range 3000 {
		seed = seed*1664525 + 1013904223
		l = append(l, rec(n*7919%3001, strings.Repeat("k", int(seed>>24)%120)))
	}
	for _, upto := range []int{0, 1, 1500, 2999, 3001, 5000} {
		stay, gone := parted(l, upto)
		wantParted(t, l, upto, stay, gone)
	}
}
