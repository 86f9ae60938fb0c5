package view_test

import (
	"slices"
	"sync"
	"testing"
	"unsafe"

	"carillon/api"
	"carillon/codec"
	"carillon/view"
)

// nexts are all views that are next to v, of nodes below nodes that are not alive, alive as life 1, or as life 2, all of them wanted or all but one.
func nexts(t *testing.T, v api.View, nodes int) []api.View {
	t.Helper()
	ways := 1
	for range nodes {
		ways *= 3
	}
	var l []api.View
	for way := range ways {
		var alive []api.Member
		for node, w := 0, way; node < nodes; node, w = node+1, w/3 {
			if w%3 > 0 {
				alive = append(alive, m(node, w%3))
			}
		}
		for skipped := range nodes + 1 {
			w, e := view.Next(v, alive, nodesOf(1<<nodes-1&^(1<<skipped)))
			if e == api.OK && !slices.ContainsFunc(l, func(x api.View) bool { return same(w, x) }) {
				l = append(l, w)
			}
		}
	}
	return l
}

// P12.4: all views that are next to one view, of one to five nodes: each has a majority of it, is right, and has the next Number; each two have a member of it in common.
func TestNextToOneView(t *testing.T) {
	for nodes := 1; nodes <= 5; nodes++ {
		for bits := 1; bits < 1<<nodes; bits++ {
			v := of(4, subset(bits, always(1))...)
			l := nexts(t, v, nodes)
			if len(l) == 0 {
				t.Errorf("%s: none is next", shown(v))
			}
			for _, w := range l {
				if !view.Right(w) || w.Number != 5 || 2*plainCommon(v, w) <= len(v.Members) {
					t.Errorf("%s is next to %s", shown(w), shown(v))
				}
				for _, x := range l {
					meet := func(y api.Member) bool { return view.Has(w, y) && view.Has(x, y) }
					if !slices.ContainsFunc(v.Members, meet) {
						t.Errorf("%s and %s are next to %s", shown(w), shown(x), shown(v))
					}
				}
			}
		}
	}
}

// often tells bits of nodes, most of which are there.
func often(next func(int) int) int {
	return next(1<<api.MaxNodes) | next(1<<api.MaxNodes) | next(1<<api.MaxNodes)
}

// P12.4: rows of views, each next to the one ahead, while nodes come, go, and come back as another life: each has a majority of the one ahead, and its code is read as it was.
func TestRowsOfViews(t *testing.T) {
	done, few := 0, 0
	for seed := range uint32(100) {
		next := walk(seed)
		v := of(1, subset(1+next(1<<api.MaxNodes-1), always(1))...)
		lives := [api.MaxNodes]int{1, 1, 1, 1, 1, 1, 1}
		for range 60 {
			lives[next(api.MaxNodes)] += next(5) / 4
			alive := subset(often(next), func(node int) int { return lives[node] })
			wanted := nodesOf(often(next))
			wantPlainNext(t, v, alive, wanted)
			w, e := view.Next(v, alive, wanted)
			if e != api.OK {
				few++
				continue
			}
			done++
			if w.Number != v.Number+1 || !view.Right(w) || view.Common(v, w) < view.Majority(v) {
				t.Errorf("%s is next to %s", shown(w), shown(v))
			}
			wantEncode(t, w, plainCode(w), api.OK)
			wantDecode(t, "a row's", plainCode(w), w, api.OK)
			v = w
		}
	}
	if done < 1000 || few < 1000 {
		t.Errorf("%d views, %d times too few", done, few)
	}
}

// P3: nothing that is handed in is written into, nor what stands behind it in its array.
func TestNothingIsWrittenInto(t *testing.T) {
	room := []api.Member{m(0, 1), m(2, 1), m(4, 1), m(5, 77), m(6, 77)}
	people := []api.Member{m(4, 2), m(2, 1), m(0, 1), m(4, 1), m(1, 99), m(3, 99)}
	numbers := []int{4, 2, 0, 2, 66, 67}
	roomWas, peopleWas, numbersWas := slices.Clone(room), slices.Clone(people), slices.Clone(numbers)
	v, alive, wanted := of(1, room[:3]...), people[:4], numbers[:4]
	wantNext(t, v, alive, wanted, of(2, m(0, 1), m(2, 1), m(4, 2)), api.OK)
	wantNext(t, v, alive[:1], wanted, api.View{}, api.ErrFew)
	view.Right(v)
	view.Majority(v)
	view.Has(v, m(2, 1))
	view.First(v)
	view.Common(v, api.View{Members: alive})
	view.Common(api.View{Members: alive}, v)
	view.Encode(v)
	if !slices.Equal(room, roomWas) || !slices.Equal(people, peopleWas) || !slices.Equal(numbers, numbersWas) {
		t.Error(room, people, numbers)
	}
}

// all is a list with its spare room.
func all(l []api.Member) []api.Member { return l[:cap(l)] }

// P3: what Next answers is new memory, spare room too: it shares none with what was handed in, nor with another answer.
func TestNextIsNewMemory(t *testing.T) {
	v := of(1, m(0, 1), m(1, 1), m(2, 1))
	alive := slices.Clone(v.Members)
	wanted := []int{0, 1, 2}
	want := of(2, m(0, 1), m(1, 1), m(2, 1))
	first, _ := view.Next(v, alive, wanted)
	second, _ := view.Next(v, alive, wanted)
	clear(all(first.Members))
	if !same(second, want) || !slices.Equal(v.Members, want.Members) || !slices.Equal(alive, want.Members) {
		t.Error(shown(second), shown(v), shownList(alive))
	}
	clear(v.Members)
	clear(alive)
	clear(wanted)
	if !same(second, want) {
		t.Error(shown(second))
	}
}

// P3: likewise what Encode and Decode answer.
func TestCodesAreNewMemory(t *testing.T) {
	v := of(2, m(0, 1), m(3, 4))
	want := plainCode(v)
	s, _ := view.Encode(v)
	clear(v.Members)
	lent := []byte(s)
	text := unsafe.String(unsafe.SliceData(lent), len(lent))
	first, _ := view.Decode(text)
	second, _ := view.Decode(text)
	if string(lent) != want || s != want {
		t.Errorf("%x, %x", s, lent)
	}
	clear(lent)
	clear(all(first.Members))
	if !same(second, of(2, m(0, 1), m(3, 4))) || s != want {
		t.Errorf("%s, %x", shown(second), s)
	}
}

// P4: the same arguments, the same answer, whatever is asked between and beside it.
func TestAnswersHangOnArgumentsAlone(t *testing.T) {
	v := of(1, m(0, 1), m(1, 1), m(2, 1))
	alive := []api.Member{m(2, 2), m(1, 1), m(0, 1)}
	var workers sync.WaitGroup
	for range 8 {
		workers.Go(func() {
			for range 50 {
				wantNext(t, v, alive, []int{0, 1, 2}, of(2, m(0, 1), m(1, 1), m(2, 2)), api.OK)
				wantNext(t, v, alive, []int{0, 2}, api.View{}, api.ErrFew)
				wantFirst(t, v, m(0, 1), api.OK)
				wantCommon(t, v, api.View{Members: alive}, 2)
				wantEncode(t, v, plainCode(v), api.OK)
				wantDecode(t, "again", plainCode(v), v, api.OK)
			}
		})
	}
	workers.Wait()
}

// P1, P2, P12.3: whatever the bytes, a decoding ends; what it takes is right, and is told back as it was.
func FuzzDecode(f *testing.F) {
	for _, v := range []api.View{{}, of(1), of(1, m(0, 1)), of(great, m(0, great), m(6, 1)), of(2, m(1, 1), m(0, 1)), of(great+1, m(7, 0))} {
		f.Add(plainCode(v))
	}
	f.Add("")
	f.Add(plainCode(of(1, m(0, 1))) + "x")
	f.Fuzz(func(t *testing.T, s string) {
		v, e := view.Decode(s)
		_, fault := codec.Decode("l*bl", s)
		switch {
		case e == api.OK:
			if !plainRight(v) {
				t.Errorf("%s is not right", shown(v))
			}
			wantEncode(t, v, s, api.OK)
		case v.Number != 0 || len(v.Members) != 0:
			t.Errorf("%s beside %d", shown(v), e)
		case fault != api.OK && e != fault || fault == api.OK && e != api.ErrForm:
			t.Errorf("%d; the code's is %d", e, fault)
		}
	})
}

// membersFrom reads members from bytes: two bytes a member, with some at the edges and beyond them.
func membersFrom(b []byte) []api.Member {
	var l []api.Member
	for pair := range slices.Chunk(b, 2) {
		x := m(int(pair[0])%10-1, 1)
		if len(pair) > 1 {
			x.Life = []int{0, 1, 2, 3, great - 1, great, great + 1}[pair[1]%7]
		}
		l = append(l, x)
	}
	return l
}

// P1, P12.1, P12.2: views and lists of all kinds, held against plain ones.
func FuzzNext(f *testing.F) {
	f.Add(1, []byte{1, 1, 2, 1, 3, 1}, []byte{1, 1, 3, 1, 3, 3}, []byte{1, 2, 3})
	f.Add(great-1, []byte{1, 1, 2, 1, 3, 1}, []byte{3, 3, 2, 1, 1, 1}, []byte{3, 2, 1, 1, 0, 9})
	f.Add(great, []byte{7, 5}, []byte{7, 5}, []byte{7})
	f.Add(0, []byte{}, []byte{8, 0}, []byte{})
	f.Fuzz(func(t *testing.T, number int, members, people, numbers []byte) {
		v, alive := of(number, membersFrom(members)...), membersFrom(people)
		var wanted []int
		for _, n := range numbers {
			wanted = append(wanted, int(n)%10-1)
		}
		wantPlainNext(t, v, alive, wanted)
		if view.Right(v) != plainRight(v) || view.Majority(v) != plainMajority(v) {
			t.Errorf("Right or Majority of %s", shown(v))
		}
		w := of(number, alive...)
		wantCommon(t, v, w, plainCommon(v, w))
		for _, x := range alive {
			if view.RightMember(x) != plainMemberRight(x) || view.Has(v, x) != slices.Contains(v.Members, x) {
				t.Errorf("RightMember of, or Has(%s; %v)", shown(v), x)
			}
		}
		if plainRight(v) {
			wantFirst(t, v, v.Members[0], api.OK)
			wantEncode(t, v, plainCode(v), api.OK)
		} else {
			wantFirst(t, v, api.Member{}, api.ErrArg)
			wantEncode(t, v, "", api.ErrArg)
		}
	})
}
