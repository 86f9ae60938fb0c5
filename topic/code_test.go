package topic_test

import (
	"fmt"
	"math"
	"slices"
	"testing"

	"carillon/api"
	"carillon/topic"
)

// P15.3: the bytes of a Dump, written out.
func TestDumpByBytes(t *testing.T) {
	x := made(t, "ab")
	want := "\x00\x00\x00\x02ab" + size("\x00", 24)
	if x.Dump() != want {
		t.Errorf("%q", x.Dump())
	}
	wantPublish(t, x, "q", 258, "k", "", 0, api.ROK)
	wantPublish(t, x, "p", 3, "", "vw", 1, api.ROK)
	wantTrim(t, x, 1, api.ROK)
	want = "\x00\x00\x00\x02ab" + "\x00\x00\x00\x00\x00\x00\x00\x01" + "\x00\x00\x00\x00\x00\x00\x00\x02" + "\x00\x00\x00\x00\x00\x00\x00\x02" +
		"\x00\x00\x00\x01p" + "\x00\x00\x00\x00\x00\x00\x00\x03" + "\x00\x00\x00\x00\x00\x00\x00\x01" +
		"\x00\x00\x00\x01q" + "\x00\x00\x00\x00\x00\x00\x01\x02" + "\x00\x00\x00\x00\x00\x00\x00\x00" +
		"\x00\x00\x00\x00\x00\x00\x00\x01" + "\x00\x00\x00\x01p" + "\x00\x00\x00\x00\x00\x00\x00\x03" + "\x00\x00\x00\x00" + "\x00\x00\x00\x02vw"
	if x.Dump() != want {
		t.Errorf("%q", x.Dump())
	}
	y, e := topic.Load(want)
	if e != api.OK || y.Dump() != want {
		t.Errorf("%d, %q", e, y.Dump())
	}
}

// P15.3: producers by their names, rising by bytes, in whatever order they publish: digits are ahead of letters, a beginning ahead of the whole.
func TestDumpTellsProducersByTheirNames(t *testing.T) {
	names := []string{"0", "00", "09", "1", "9", "a", "a0", "aa", "aaaaaaaaaaaaaaaaaaaa", "ab", "b", "p", "p1", "p10", "p2", "z", "z9", "zz"}
	for step := 1; step < len(names); step++ {
		b := bothOf(t, "t")
		for i := range 3 * len(names) {
			b.publish(t, names[i*step*5%len(names)], i, "k", "v")
		}
		b.hold(t)
		f, ok := plainLoad(b.x.Dump())
		if !ok || !slices.IsSortedFunc(f.producers, func(x, y who) int { return slices.Index(names, x.name) - slices.Index(names, y.name) }) {
			t.Errorf("%v", f.producers)
		}
	}
}

// right are forms of topics that may be, at the edges of all that they have.
func right() []form {
	two := []who{{"a", 0, 0}, {"b", great, 3}}
	return []form{
		{name: "t"},
		{name: size("z", 20)},
		{name: "0", end: great},
		{name: "t", low: great, end: great},
		{name: "t", low: 3, end: great},
		{name: "t", low: 4, end: 4, many: 2, producers: two},
		{name: "t", low: 0, end: 4, many: 2, producers: two},
		{name: "t", end: great, many: 1, producers: []who{{size("p", 20), great, great - 1}}},
		{name: "t", end: 1, records: []api.Record{{}}},
		{name: "t", end: 1, many: 1, producers: []who{{"p", 0, 0}}, records: []api.Record{rec(0, "p", 0, "", "")}},
		{name: "t", low: 2, end: 4, many: 2, producers: two, records: []api.Record{rec(2, "x", great, size("k", 100), size("v", 1000)), rec(3, size("\xff", 20), 0, "", "")}},
		{name: "t", low: 2, end: 9, many: 2, producers: two, records: []api.Record{rec(2, "a", 0, "k", ""), rec(5, "a", 0, "k", ""), rec(8, "a", 0, "k", "")}},
		{name: "t", low: great - 1, end: great, records: []api.Record{rec(great-1, "p", 0, "", "")}},
		{name: "t", end: 1 << 40, many: 3, producers: []who{{"a", 7, 5}, {"b", 7, 5}, {"c", 7, 5}}, records: []api.Record{rec(1<<33, "A B", 7, "", "")}},
	}
}

// P15.3: Load of what says a topic that may be is that topic, also where no row of calls has made it.
func TestLoad(t *testing.T) {
	for _, f := range right() {
		if !f.may() {
			t.Fatalf("%v may not be", f)
		}
		wantForm(t, loaded(t, f), f)
	}
}

// wrong is a form of a topic that may not be, and why.
type wrong struct {
	why string
	form
}

// base is a form that may be, of which the wrong ones are made.
func base() form {
	return form{name: "t", low: 2, end: 6, many: 3, producers: []who{{"a", 1, 0}, {"b", 2, 3}, {"c", 3, 5}},
		records: []api.Record{rec(2, "x", 1, "k", "v"), rec(3, "b", 2, "", "w"), rec(5, "c", 3, "k", "")}}
}

func wrongMarks() []wrong {
	var l []wrong
	put := func(why string, low, end int) {
		for _, f := range []form{base(), {name: "t"}} {
			f.low, f.end = low, end
			l = append(l, wrong{why, f})
		}
	}
	put("a low mark one above End", 7, 6)
	put("a low mark far above End", great, 6)
	put("a low mark above all numbers", great+1, 6)
	put("a low mark past all ints", -1, 6)
	put("the greatest low mark below 2^64, End likewise", -1, -1)
	put("a low mark of 2^63", math.MinInt, 6)
	put("both of 2^63", math.MinInt, math.MinInt)
	put("an End of 2^53", 2, great+1)
	put("an End of 2^63 - 1", 2, math.MaxInt)
	put("an End past all ints", 2, -1)
	put("an End of 2^63", 2, math.MinInt)
	put("a low mark and an End of 2^53", great+1, great+1)
	put("an End below what producers and records have, and below the low mark", 2, 0)
	for _, name := range noWords() {
		f := base()
		f.name = name
		l = append(l, wrong{fmt.Sprintf("the name %.30q", name), f})
	}
	return l
}

func wrongProducers() []wrong {
	var l []wrong
	for at := range 3 {
		put := func(why string, change func(w *who)) {
			f := base()
			change(&f.producers[at])
			l = append(l, wrong{fmt.Sprintf("the producer %d: %s", at, why), f})
		}
		for _, seq := range []int{great + 1, 1 << 62, math.MaxInt, -1, math.MinInt} {
			put(fmt.Sprintf("Seq %d", seq), func(w *who) { w.seq = seq })
		}
		for _, offset := range []int{6, 7, great, great + 1, math.MaxInt, -1, math.MinInt} {
			put(fmt.Sprintf("Offset %d", offset), func(w *who) { w.offset = offset })
		}
		for _, name := range noWords() {
			put(fmt.Sprintf("%.30q", name), func(w *who) { w.name = name })
		}
	}
	for _, names := range [][3]string{{"a", "a", "c"}, {"a", "c", "c"}, {"a", "b", "a"}, {"b", "a", "c"}, {"a", "c", "b"}, {"c", "b", "a"}, {"b", "b", "b"}, {"aa", "a", "b"}, {"a", "b", "9"}, {"p2", "p10", "q"}, {"b", "c", "a"}} {
		f := base()
		for i, name := range names {
			f.producers[i].name = name
		}
		l = append(l, wrong{fmt.Sprintf("producers %v", names), f})
	}
	l = append(l, wrong{"a producer of a topic that never had a record", form{name: "t", many: 1, producers: []who{{"p", 0, 0}}}})
	return l
}

func wrongRecords() []wrong {
	var l []wrong
	for at := range 3 {
		put := func(why string, change func(r *api.Record)) {
			f := base()
			change(&f.records[at])
			l = append(l, wrong{fmt.Sprintf("the record at %d: %s", at, why), f})
		}
		put("a Producer of 21 bytes", func(r *api.Record) { r.Producer = size("p", 21) })
		put("a Key of 101 bytes", func(r *api.Record) { r.Key = size("k", 101) })
		put("a Value of 1001 bytes", func(r *api.Record) { r.Value = size("v", 1001) })
		for _, seq := range []int{great + 1, 1 << 62, math.MaxInt, -1, math.MinInt} {
			put(fmt.Sprintf("Seq %d", seq), func(r *api.Record) { r.Seq = seq })
		}
		for _, offset := range []int{0, 1, 6, 7, great, great + 1, math.MaxInt, -1, math.MinInt} {
			put(fmt.Sprintf("Offset %d", offset), func(r *api.Record) { r.Offset = offset })
		}
	}
	for _, offsets := range [][3]int{{2, 2, 5}, {2, 5, 5}, {3, 2, 5}, {2, 5, 3}, {5, 3, 2}, {4, 4, 4}, {3, 4, 2}, {3, 5, 4}} {
		f := base()
		for i, offset := range offsets {
			f.records[i].Offset = offset
		}
		l = append(l, wrong{fmt.Sprintf("records %v", offsets), f})
	}
	l = append(l, wrong{"a record of a topic that never had one", form{name: "t", records: []api.Record{{}}}},
		wrong{"a record of a topic all of which is trimmed", form{name: "t", low: 4, end: 4, records: []api.Record{rec(3, "p", 0, "", "")}}},
		wrong{"a record at End of a topic all of which is trimmed", form{name: "t", low: 4, end: 4, records: []api.Record{rec(4, "p", 0, "", "")}}})
	return l
}

func wrongCounts() []wrong {
	var l []wrong
	for _, many := range []int{0, 1, 2, 4, 5, 6, 332, 333, 334, 1000, 1001, 1 << 31, 1 << 32, 1<<32 + 3, great, great + 1, math.MaxInt / 3, math.MaxInt, math.MinInt, math.MinInt + 3, -1, -3} {
		f := base()
		f.many = many
		l = append(l, wrong{fmt.Sprintf("%d producers, of which there are 3", many), f})
		f = form{name: "t", end: 9, many: many}
		if many != 0 {
			l = append(l, wrong{fmt.Sprintf("%d producers, of which there are none", many), f})
		}
	}
	return l
}

// P15.3, P2: Load of what says a topic that may not be: ErrForm, and none.
func TestLoadOfWrongForms(t *testing.T) {
	if f := base(); !f.may() {
		t.Fatal("the base may not be")
	}
	for _, l := range [][]wrong{wrongMarks(), wrongProducers(), wrongRecords(), wrongCounts()} {
		for _, w := range l {
			if w.may() {
				t.Errorf("%s: it may be", w.why)
			}
			wantErrForm(t, w.why, w.bytes())
		}
	}
}

// P15.3: bytes that are too short, too long, of another shape. (Where a whole record is taken off the end, or is behind it that does not rise, the plain reader says what it is.)
func TestLoadOfOtherBytes(t *testing.T) {
	for _, f := range append(right(), base()) {
		s := f.bytes()
		for at := range len(s) {
			holdBytes(t, s[:at])
		}
		for _, tail := range []string{"\x00", "x", size("\x00", 7), size("\x00", 8), size("\x00", 28), size("\x00", 29), s, size("\xff", 40)} {
			holdBytes(t, s+tail)
			wantErrForm(t, "a byte ahead", "\x00"+s)
		}
	}
	f := form{name: "t", end: 2, many: 1, producers: []who{{"p", 0, 1}}, records: []api.Record{rec(0, "p", 0, "", "")}}
	s := f.bytes()
	for at := 1; at < len(s); at++ {
		if _, ok := plainLoad(s[:at]); ok != (len(s)-at == 29) {
			t.Errorf("of %d of %d bytes: %v", at, len(s), ok)
		}
	}
	for _, s := range []string{"", "\x00", "\x00\x00\x00", "\x00\x00\x00\x00", "\x00\x00\x00\x01", "\x00\x00\x00\x01t", "t", "garbage",
		text("t") + long(0) + long(0), text("t") + long(0) + long(0) + four(0), text("t") + four(0) + four(0) + four(0),
		"\xff\xff\xff\xfft" + long(0) + long(0) + long(0), "\x7f\xff\xff\xfft" + long(0) + long(0) + long(0), "\x80\x00\x00\x00t" + long(0) + long(0) + long(0),
		four(100001) + size("t", 100001) + long(0) + long(0) + long(0), four(100000) + size("t", 100000) + long(0) + long(0) + long(0),
		long(0) + long(0) + long(0) + text("t"), size("\x00", 1000), size("\xff", 1000), size("t", 1000)} {
		wantErrForm(t, fmt.Sprintf("%.40q", s), s)
	}
}

// holdBytes holds bytes at Load against the plain reader; what is read is written as it stood.
func holdBytes(t *testing.T, s string) {
	t.Helper()
	f, ok := plainLoad(s)
	if !ok {
		wantErrForm(t, fmt.Sprintf("%.200q", s), s)
		return
	}
	x, e := topic.Load(s)
	if e != api.OK {
		t.Errorf("Load(%.200q): %d", s, e)
		return
	}
	wantForm(t, x, f)
}

// named tells n producers that rise, whose Offset is 0.
func named(n int) []who {
	var l []who
	for i := range n {
		l = append(l, who{fmt.Sprintf("p%04d", i), i, 0})
	}
	return l
}

// counted tells n records from an offset on.
func counted(n, from int) []api.Record {
	var l []api.Record
	for i := range n {
		l = append(l, rec(from+i, "p", i, "", "v"))
	}
	return l
}

// P15.3: of just MaxItems items there is a Dump, of which there is the topic; of a topic with more there is none, and Load refuses what would be its bytes.
func TestDumpOfJustMaxItems(t *testing.T) {
	for records := 0; records <= 200; records++ {
		left := 1000 - 4 - 5*records
		if left < 0 {
			continue
		}
		f := form{name: "t", end: 500, many: left / 3, producers: named(left / 3), records: counted(records, 0)}
		if f.items() > 1000 || f.items() < 998 {
			t.Fatal(f.items())
		}
		wantForm(t, loaded(t, f), f)
		more := f
		more.many, more.producers = f.many+1, named(f.many+1)
		wantErrForm(t, "one producer more", more.bytes())
		more = f
		more.records = counted(records+1, 0)
		wantErrForm(t, "one record more", more.bytes())
	}
}

// P15.3: a topic that comes to just MaxItems items by its calls, and to more: Dump tells nothing then, and the bytes again, once it has fewer.
func TestDumpOfTooMany(t *testing.T) {
	b := bothOf(t, "t")
	for i := range 198 {
		b.publish(t, "p", i, "", "v")
	}
	b.publish(t, "q", 0, "", "v")
	if b.p.items() != 4+6+5*199 {
		t.Fatal(b.p.items())
	}
	b.hold(t)
	wantErrForm(t, "what Dump tells of too many", b.x.Dump())
	b.trim(t, 1)
	if b.p.items() != 1000 || b.x.Dump() == "" {
		t.Errorf("%d items, %d bytes", b.p.items(), len(b.x.Dump()))
	}
	b.hold(t)
	b.reload(t)
	b.publish(t, "p", 1000, "", "v") // a record more, and no producer
	if b.x.Dump() != "" {
		t.Errorf("%d bytes of %d items", len(b.x.Dump()), b.p.items())
	}
	b.hold(t)
	b.trim(t, 2)
	b.hold(t)
	b.trim(t, 200)
	for i := range 330 {
		b.publish(t, fmt.Sprintf("r%d", i), 0, "", "v")
	}
	b.trim(t, 530)
	if b.p.items() != 1000 || b.x.Dump() == "" {
		t.Errorf("%d items, %d bytes", b.p.items(), len(b.x.Dump()))
	}
	b.hold(t)
	b.reload(t)
	b.publish(t, "s", 0, "", "v")
	b.trim(t, 531)
	if b.p.items() != 1003 || b.x.Dump() != "" { // a producer more, and no record
		t.Errorf("%d items, %d bytes", b.p.items(), len(b.x.Dump()))
	}
	b.hold(t)
	b.publish(t, "s", 0, "", "v")
	b.publish(t, "r7", 0, "", "v")
}

// P15.3: a Dump changes nothing, and a topic that was loaded shares nothing with the one that was dumped.
func TestDumpChangesNothing(t *testing.T) {
	x, l := five(t)
	s := x.Dump()
	y, e := topic.Load(s)
	if e != api.OK || x.Dump() != s || y.Dump() != s {
		t.Fatal(e)
	}
	wantPublish(t, y, "p", 20, "", "other", 5, api.ROK)
	wantTrim(t, y, 3, api.ROK)
	wantForm(t, x, form{name: "t", end: 5, producers: []who{{"p", 14, 4}}, records: l})
	wantPublish(t, x, "p", 15, "", "one", 5, api.ROK)
	wantForm(t, y, form{name: "t", low: 3, end: 6, producers: []who{{"p", 20, 5}}, records: append(slices.Clone(l[3:]), rec(5, "p", 20, "", "other"))})
	if z, _ := topic.Load(s); z.Dump() != s {
		t.Errorf("%q", z.Dump())
	}
}

// P15.1, P15.3: at the greatest End a topic goes on as the words say, by one; a Dump of an End beyond it is not loaded.
func TestBeyondTheGreatestEnd(t *testing.T) {
	b := bothLoaded(t, form{name: "t", low: great, end: great, many: 1, producers: []who{{"p", 1, great - 1}}})
	b.publish(t, "p", 1, "", "v")
	b.publish(t, "p", 2, "", "v")
	if b.x.End() != great+1 {
		t.Errorf("End: %d", b.x.End())
	}
	b.hold(t)
	b.reload(t)
	b.publish(t, "p", 2, "", "v")
	b.publish(t, "p", 3, "", "v")
	b.trim(t, great+1)
	b.trim(t, great+2)
	b.trim(t, great+3)
	b.hold(t)
}
