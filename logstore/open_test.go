package logstore_test

import (
	"maps"
	"math"
	"slices"
	"strconv"
	"strings"
	"testing"

	"carillon/api"
	"carillon/disk"
	"carillon/logstore"
)

// empty is the log of nothing, as it stands on a disk.
func empty(topic string) files {
	return files{topic + ".0.0": "", topic + ".m": manifest(0, 0, 0)}
}

// P7.1: on an empty disk an empty log is laid, and it lasts.
func TestOpenOfNothing(t *testing.T) {
	d := laid(t, 32, nil) // just the manifest's bytes
	x := opened(t, d, "t", 1)
	wantLog(t, x, 0, 0, []api.Segment{{}}, nil)
	wantFiles(t, d, empty("t"))
	d.Crash(0, nil)
	wantFiles(t, d, empty("t"))
	wantLog(t, opened(t, d, "t", 1), 0, 0, []api.Segment{{}}, nil)
	wantFiles(t, d, empty("t"))
}

// P7.1: the manifest's bytes: a frame of longs.
func TestManifestBytes(t *testing.T) {
	d, x := filled(t, 1, 3, 258)
	if e := x.Trim(2); e != api.OK {
		t.Fatal(e)
	}
	s, _ := d.Read("t.m")
	want := "\x00\x00\x00\x28" + s[4:8] + "\x00\x00\x00\x00\x00\x00\x00\x02" +
		"\x00\x00\x00\x00\x00\x00\x00\x00" + "\x00\x00\x00\x00\x00\x00\x00\x00" +
		"\x00\x00\x00\x00\x00\x00\x01\x02" + "\x00\x00\x00\x00\x00\x00\x00\x00"
	if s != want || s != framed(s[8:]) {
		t.Errorf("%x; want %x", s, want)
	}
}

// P7.1: which texts are topics.
func TestOpenTopics(t *testing.T) {
	for _, topic := range []string{"a", "z", "0", "9", "m", "t", "az09", strings.Repeat("a", api.MaxWord), strings.Repeat("9", api.MaxWord), "00", "007"} {
		d := laid(t, 100, nil)
		wantLog(t, opened(t, d, topic, 1), 0, 0, []api.Segment{{}}, nil)
		wantFiles(t, d, empty(topic))
	}
	for _, topic := range []string{"", strings.Repeat("a", api.MaxWord+1), "A", "Z", "aB", "a.b", "a.", ".", ".a", "a-b", "a_b", " ", "a ", "\x00", "a\x00", "a/", "a:", "`", "a{", "é", "aé", "\xff", "a\n", strings.Repeat("a", 100000)} {
		have := files{topic + ".m": "kept", topic + ".x": "kept"}
		if len(topic) > 30 {
			have = nil
		}
		d := laid(t, 100, have)
		wantNone(t, d, topic, 1, api.ErrName)
		wantFiles(t, d, have)
	}
}

// wantNone holds an Open that must fail against its error.
func wantNone(t *testing.T, d *disk.Disk, topic string, limit int, want api.Errno) {
	t.Helper()
	if x, e := logstore.Open(d, topic, limit); e != want || x != nil {
		t.Errorf("Open(%q, %d): %v, %d; want %d", topic, limit, x, e, want)
	}
}

// P7.1, P6: a limit is 1 or more.
func TestOpenLimits(t *testing.T) {
	for _, limit := range []int{1, 2, 4000, math.MaxInt} {
		opened(t, laid(t, 100, nil), "t", limit)
	}
	for _, limit := range []int{0, -1, math.MinInt} {
		d := laid(t, 100, nil)
		wantNone(t, d, "t", limit, api.ErrArg)
		wantFiles(t, d, nil)
	}
}

// P7.1, P2: of several errors the first one is told: ErrName, ErrArg, ErrDown, ErrForm.
func TestOpenErrorsInOrder(t *testing.T) {
	up := laid(t, 100, files{"t.m": "no manifest"})
	down := laid(t, 100, files{"t.m": "no manifest"})
	down.Fuse(0)
	down.DirSync()
	for _, d := range []*disk.Disk{up, down} {
		wantNone(t, d, "T", 0, api.ErrName)
		wantNone(t, d, "T", 1, api.ErrName)
		wantNone(t, d, "t", 0, api.ErrArg)
	}
	wantNone(t, down, "t", 1, api.ErrDown)
	wantNone(t, down, "u", 1, api.ErrDown)
	wantNone(t, up, "t", 1, api.ErrForm)
}

// others are files that are not of the topic t.
func others() files {
	return files{"t": "1", "tm": "2", "t.": "3", "tt.0.0": "4", "t0.m": "5", "T.m": "6", "at.m": "7", "u.0.0": "8", ".t.m": "9", "s.t": "", "journal": "10"}
}

// P7.1: where there is no manifest, the files of the topic go, and no others.
func TestOpenWithoutManifest(t *testing.T) {
	have := others()
	maps.Copy(have, files{"t.0.0": text(rec(0)), "t.0.1": "x", "t.7.0": text(rec(7)), "t.t": manifest(0, 0, 0), "t.x": "", "t.m.m": "y", "t..": "z", "t.M": manifest(0, 0, 0), "t. m": "", "t.m\x00": ""})
	d := laid(t, 1000, have)
	x := opened(t, d, "t", 1)
	wantLog(t, x, 0, 0, []api.Segment{{}}, nil)
	want := others()
	maps.Copy(want, empty("t"))
	wantFiles(t, d, want)
	d.Crash(0, nil)
	wantFiles(t, d, want)
}

// P7.1: with one, those of the topic go that are neither it nor one of its segments'.
func TestOpenRemovesStrays(t *testing.T) {
	stay := others()
	maps.Copy(stay, files{"t.m": manifest(3, 2, 0, 5, 12), "t.2.0": text(recs(2, 3)...), "t.5.12": text(rec(6))})
	have := maps.Clone(stay)
	maps.Copy(have, files{"t.t": manifest(0, 0, 0), "t.2.1": text(rec(2)), "t.5.0": "x", "t.5.13": "", "t.02.0": "a", "t.2.00": "b", "t.2.0.": "c", "t.2": "", "t.12.5": "", "t.0.0": "", "t.mm": "", "t.-1.0": "", "t.junk": "!"})
	d := laid(t, 10000, have)
	x := opened(t, d, "t", 1)
	wantLog(t, x, 3, 7, []api.Segment{{Base: 2, Size: 2 * one}, {Base: 5, Gen: 12, Size: one}}, recs(3, 6))
	wantFiles(t, d, stay)
}

// P7.1: they go one by one, rising.
func TestOpenRemovesRising(t *testing.T) {
	strays := []string{"t.\x00", "t.!", "t.0.1", "t.10.0", "t.9.0", "t.n", "t.t", "t.zz", "t.\xff"}
	for _, with := range []files{nil, empty("t")} {
		for n := range strays {
			have := maps.Clone(with)
			if have == nil {
				have = files{}
			}
			want := maps.Clone(have)
			for i, name := range strays {
				have[name] = "x"
				if i >= n {
					want[name] = "x"
				}
			}
			d := laid(t, 1000, have)
			d.Fuse(n)
			wantNone(t, d, "t", 1, api.ErrDown)
			d.Crash(1000, nil)
			wantFiles(t, d, want)
		}
	}
}

// noManifests are texts that are not of a manifest's form, in each part of it.
func noManifests() map[string]string {
	good := manifest(3, 2, 0, 5, 1)
	turned := []byte(good)
	turned[len(turned)-1] ^= 1
	sum := []byte(good)
	sum[4] ^= 1
	long := []int{0}
	for i := range 500 {
		long = append(long, i, 0)
	}
	return map[string]string{
		"nothing":                            "",
		"a byte":                             "x",
		"a byte short":                       good[:len(good)-1],
		"a byte more":                        good + "\x00",
		"two":                                good + good,
		"another sum":                        string(sum),
		"a bit turned":                       string(turned),
		"too long a frame":                   "\xff\xff\xff\xff" + good,
		"a frame of nothing":                 framed(""),
		"no segment":                         manifest(3),
		"a Base, no Gen":                     manifest(3, 2),
		"a Base too many":                    manifest(3, 2, 0, 5),
		"a byte in the frame":                framed(longs(3, 2, 0) + "x"),
		"a byte less in the frame":           framed(longs(3, 2, 0)[:23]),
		"a word for the low mark":            framed(longs(3, 2, 0)[4:]),
		"Bases that are the same":            manifest(3, 2, 0, 2, 1),
		"Bases that fall":                    manifest(9, 5, 0, 2, 0),
		"Bases that fall at the end":         manifest(9, 5, 0, 6, 0, 4, 0),
		"a Base above the low mark":          manifest(3, 4, 0),
		"a first of two above the low mark":  manifest(0, 1, 0, 2, 0),
		"too great a low mark":               manifest(great+1, 0, 0),
		"too great a Base":                   manifest(great, 0, 0, great+1, 0),
		"too great a Gen":                    manifest(3, 2, great+1),
		"too great a Gen behind":             manifest(3, 2, 0, 5, great+1),
		"a low mark that is below 0":         manifest(-1, 0, 0),
		"a Base that is below 0":             manifest(3, -1, 0),
		"a second Base that is below 0":      manifest(3, 2, 0, -5, 0),
		"a Gen that is below 0":              manifest(3, 2, -1),
		"numbers past 63 bits":               framed(longs(1<<63, 0, 0)),
		"a Base past 63 bits":                framed(longs(0, 1<<63+5, 0)),
		"more items than a code may have":    manifest(long...),
		"a record":                           text(rec(0)),
		"a frame that is all there, another": framed("carillon"),
	}
}

// P7.1: a manifest that is not of its form: ErrForm, and nothing is changed, strays stay too.
func TestOpenNoManifest(t *testing.T) {
	for name, s := range noManifests() {
		have := files{"t.m": s, "t.2.0": text(rec(2)), "t.5.1": text(rec(5)) + "torn", "t.t": "x", "t.junk": "y", "u.x": "z"}
		d := laid(t, 100000, have)
		d.Fuse(0)
		wantNone(t, d, "t", 1, api.ErrForm)
		if d.Down() {
			t.Fatalf("%s: an act was done", name)
		}
		wantFiles(t, d, have)
		if t.Failed() {
			t.Fatal(name)
		}
	}
}

// P7.1: manifests at the edges of their form.
func TestOpenEdgesOfManifests(t *testing.T) {
	for name, c := range map[string]struct {
		numbers []int
		end     int
	}{
		"one":                     {[]int{0, 0, 0}, 0},
		"the low mark at Base":    {[]int{7, 7, 0}, 7},
		"the low mark above":      {[]int{8, 7, 0}, 8},
		"the low mark above all":  {[]int{100, 7, 0, 8, 1, 9, 2}, 100},
		"the next one's Base":     {[]int{0, 0, 5, 1, 0}, 1},
		"the greatest Gen":        {[]int{0, 0, great}, 0},
		"the greatest Gens":       {[]int{1, 0, great, 1, great}, 1},
		"the greatest Base":       {[]int{0, 0, 0, great, 0}, great},
		"the greatest of all":     {[]int{great, great, great}, great},
		"the greatest low mark":   {[]int{great, 0, 0}, great},
		"the last is far behind":  {[]int{3, 0, 0, 1, 0, 1 << 40, 3}, 1 << 40},
		"a gap where nothing was": {[]int{2, 1, 1, 3, 3}, 3},
	} {
		have := files{"t.m": manifest(c.numbers...)}
		var segments []api.Segment
		for i := 1; i < len(c.numbers); i += 2 {
			have["t."+strconv.Itoa(c.numbers[i])+"."+strconv.Itoa(c.numbers[i+1])] = ""
			segments = append(segments, api.Segment{Base: c.numbers[i], Gen: c.numbers[i+1]})
		}
		d := laid(t, 1000, have)
		d.Fuse(0) // nothing is to be done
		x := opened(t, d, "t", 1)
		wantLog(t, x, c.numbers[0], c.end, segments, nil)
		wantFiles(t, d, have)
		if t.Failed() {
			t.Fatal(name)
		}
	}
}

// P7.1: as many segments as a disk has files for.
func TestOpenManySegments(t *testing.T) {
	numbers, have := []int{0}, files{}
	for i := range api.MaxFiles - 1 {
		numbers = append(numbers, 2*i, i%3)
		have["t."+strconv.Itoa(2*i)+"."+strconv.Itoa(i%3)] = text(rec(2*i + 1))
	}
	have["t.m"] = manifest(numbers...)
	d := laid(t, 100000, have)
	x := opened(t, d, "t", 1)
	if l, e := x.Read(0, 1000); len(l) != api.MaxFiles-1 || e != api.OK || len(x.Segments()) != api.MaxFiles-1 || x.End() != 2*(api.MaxFiles-1) {
		t.Errorf("%d records, %d; %d segments; end %d", len(l), e, len(x.Segments()), x.End())
	}
	wantFiles(t, d, have)
}

// P7.1: a closed segment that is not there, or not whole, or reaches the next one's Base; strays are gone by then.
func TestOpenOfWrongClosed(t *testing.T) {
	good := text(recs(2, 4)...)
	turned := []byte(good)
	turned[len(turned)-1] ^= 1
	for name, s := range map[string]string{
		"not there":               "-",
		"torn":                    good[:len(good)-1],
		"torn in the first":       good[:5],
		"a byte more":             good + "\x00",
		"a bit turned":            string(turned),
		"below its Base":          text(recs(1, 4)...),
		"does not rise":           text(recs(2, 3, 3)...),
		"falls":                   text(recs(3, 2)...),
		"reaches the next":        text(recs(2, 5)...),
		"reaches it alone":        text(rec(5)),
		"reaches beyond the next": text(recs(2, 7)...),
		"reaches far beyond":      text(rec(great)),
		"a frame, no record":      good + framed("x"),
	} {
		for _, which := range []int{0, 1} { // the first of three, the second of three
			numbers := [][]int{{3, 2, 0, 5, 0, 9, 0}, {3, 1, 0, 2, 0, 5, 0}}[which]
			have := files{"t.m": manifest(numbers...), "u": "", "t.5.0": text(rec(6))}
			if which == 0 {
				have["t.9.0"] = text(rec(9))[:9]
			} else {
				have["t.1.0"] = text(rec(1))
			}
			if s != "-" {
				have["t.2.0"] = s
			}
			all := maps.Clone(have)
			all["t.2.1"], all["t.t"] = "stray", "stray"
			d := laid(t, 1000, all)
			wantNone(t, d, "t", 1, api.ErrForm)
			wantFiles(t, d, have) // nor is the active one cut
			if t.Failed() {
				t.Fatal(name, which)
			}
		}
	}
}

// P7.1: closed segments at the edges of what they may have.
func TestOpenOfRightClosed(t *testing.T) {
	for _, l := range [][]api.Record{nil, recs(2), recs(4), recs(2, 3, 4), recs(3)} {
		d := laid(t, 1000, files{"t.m": manifest(2, 2, 7, 5, 0), "t.2.7": text(l...), "t.5.0": text(recs(5, 6)...)})
		d.Fuse(0)
		wantLog(t, opened(t, d, "t", 1), 2, 7, []api.Segment{{Base: 2, Gen: 7, Size: len(l) * one}, {Base: 5, Size: 2 * one}}, append(slices.Clone(l), recs(5, 6)...))
	}
}

// P7.1: the active segment is cut where what it has ends, and that lasts; whole it is left alone.
func TestOpenCutsTheActiveOne(t *testing.T) {
	good := text(recs(5, 7)...)
	turned := []byte(text(rec(8)))
	turned[len(turned)-1] ^= 1
	for name, tail := range map[string]string{
		"nothing":                       "",
		"a byte":                        "\x00",
		"a torn record":                 text(rec(8))[:one-1],
		"a torn record, and one behind": text(rec(8))[:one-1] + text(rec(9)),
		"a bit turned":                  string(turned),
		"too long":                      "torn",
		"no record":                     framed("x") + text(rec(8)),
		"one that does not rise":        text(rec(7)) + text(rec(8)),
		"one below the Base":            text(rec(1)),
	} {
		have := files{"t.m": manifest(3, 2, 0, 5, 0), "t.2.0": text(rec(4)), "t.5.0": good + tail}
		whole := maps.Clone(have)
		whole["t.5.0"] = good
		d := laid(t, 1000, have)
		if tail == "" {
			d.Fuse(0)
		} else {
			d.Fuse(2)
		}
		wantLog(t, opened(t, d, "t", 1), 3, 8, []api.Segment{{Base: 2, Size: one}, {Base: 5, Size: 2 * one}}, recs(4, 5, 7))
		wantFiles(t, d, whole)
		d.Crash(0, nil)
		wantFiles(t, d, whole)
		if t.Failed() {
			t.Fatal(name)
		}
	}
}

// P7.1: an active segment of which nothing is whole has nothing; one whose records are below its Base likewise.
func TestOpenCutsToNothing(t *testing.T) {
	for _, s := range []string{"x", text(rec(4)), text(rec(5))[:one-1], text(rec(4)) + text(rec(5))} {
		d := laid(t, 1000, files{"t.m": manifest(3, 2, 0, 5, 0), "t.2.0": text(rec(4)), "t.5.0": s})
		wantLog(t, opened(t, d, "t", 1), 3, 5, []api.Segment{{Base: 2, Size: one}, {Base: 5}}, recs(4))
		wantFiles(t, d, files{"t.m": manifest(3, 2, 0, 5, 0), "t.2.0": text(rec(4)), "t.5.0": ""})
	}
}

// P7.1: an active segment that is not there.
func TestOpenWithoutTheActiveOne(t *testing.T) {
	for _, have := range []files{
		{"t.m": manifest(0, 0, 0)},
		{"t.m": manifest(3, 2, 0, 5, 1), "t.2.0": text(rec(4))},
	} {
		all := maps.Clone(have)
		all["t.5.0"], all["t.0.1"] = text(rec(5)), "" // of another Gen
		d := laid(t, 1000, all)
		wantNone(t, d, "t", 1, api.ErrForm)
		wantFiles(t, d, have)
	}
	d := laid(t, 1000, files{"t.m": manifest(1, 1, 100), "t.1.100": "", "u.m": manifest(0, 0, great), "u.0.0": ""})
	wantNone(t, d, "u", 1, api.ErrForm)
	wantLog(t, opened(t, d, "t", 1), 1, 1, []api.Segment{{Base: 1, Gen: 100}}, nil)
}

// P7.1: names of segments that no disk has: too long for it.
func TestOpenOfTooLongNames(t *testing.T) {
	topic := strings.Repeat("t", api.MaxWord)
	have := files{topic + ".m": manifest(great, great, 100)}
	d := laid(t, 1000, have)
	wantNone(t, d, topic, 1, api.ErrForm)
	wantFiles(t, d, have)
}

// P7.1: each act of an Open, and no more: a fuse of one less has it end.
func TestOpenActs(t *testing.T) {
	for name, c := range map[string]struct {
		have files
		want int
	}{
		"nothing":           {nil, 7}, // Create, Sync; Create, Append, Sync, Rename, DirSync
		"strays":            {files{"t.0.0": "x", "t.t": "y", "u.t": "z"}, 9},
		"a log":             {empty("t"), 0},
		"a log, strays":     {files{"t.0.0": "", "t.m": manifest(0, 0, 0), "t.t": "y", "t.0.1": "z"}, 2},
		"a torn end":        {files{"t.0.0": "x", "t.m": manifest(0, 0, 0)}, 2},
		"a torn end, stray": {files{"t.0.0": "x", "t.m": manifest(0, 0, 0), "t.1.0": ""}, 3},
	} {
		got := acts(t, func() (*disk.Disk, func() api.Errno) {
			d := laid(t, 1000, c.have)
			return d, func() api.Errno {
				x, e := logstore.Open(d, "t", 5)
				if (x == nil) != (e != api.OK) {
					t.Errorf("%v, %d", x, e)
				}
				return e
			}
		})
		if got != c.want {
			t.Errorf("%s: %d acts; want %d", name, got, c.want)
		}
	}
}

// P7.1: a disk without room, at each act that asks for it: what was done ahead of it stays, and with room Open goes on from there.
func TestOpenWithoutRoom(t *testing.T) {
	for room := range 32 {
		d := laid(t, room, nil)
		wantNone(t, d, "t", 1, api.ErrFull)
		wantFiles(t, d, files{"t.0.0": "", "t.t": ""})
		wantNone(t, d, "t", 1, api.ErrFull)
		wantFiles(t, d, files{"t.0.0": "", "t.t": ""})
	}
	for left, want := range []files{{}, {"t.0.0": ""}, empty("t")} {
		have := files{}
		for i := range api.MaxFiles - left {
			have["f"+strconv.Itoa(i)] = ""
		}
		d := laid(t, 100, have)
		all := maps.Clone(have)
		maps.Copy(all, want)
		if left == 2 {
			opened(t, d, "t", 1)
			wantFiles(t, d, all)
			continue
		}
		wantNone(t, d, "t", 1, api.ErrFull)
		wantFiles(t, d, all)
		d.Remove("f0")
		d.Remove("f1")
		wantLog(t, opened(t, d, "t", 1), 0, 0, []api.Segment{{}}, nil)
	}
}

// P7.1: strays make room: they go ahead of what is laid.
func TestOpenMakesRoom(t *testing.T) {
	d := laid(t, 32, files{"t.x": strings.Repeat("x", 32)})
	opened(t, d, "t", 1)
	wantFiles(t, d, empty("t"))
}
