package node_test

import (
	"slices"
	"strings"
	"testing"
	"unsafe"

	"carillon/api"
	"carillon/node"
)

// lent tells a text over bytes that may be written into later.
func lent(s string) (string, []byte) {
	b := []byte(s)
	return unsafe.String(unsafe.SliceData(b), len(b)), b
}

// texts are some that are lent, in a list with spare room.
type texts struct {
	texts []string
	bytes [][]byte
}

func lentTexts(l []string) *texts {
	x := &texts{texts: make([]string, 0, len(l)+3)}
	for _, s := range l {
		s, b := lent(s)
		x.texts, x.bytes = append(x.texts, s), append(x.bytes, b)
	}
	copy(x.texts[len(l):cap(x.texts)], []string{"spare", "spare", "spare"})
	return x
}

// spoil asks that nothing was written into, and writes over all of it.
func (x *texts) spoil(t testing.TB, want []string) {
	t.Helper()
	room := x.texts[:cap(x.texts)]
	if !slices.Equal(x.texts, want) || !slices.Equal(room[len(want):], []string{"spare", "spare", "spare"}) {
		t.Fatalf("written into: %s; was %s", shownTexts(room), shownTexts(want))
	}
	for _, b := range x.bytes {
		fill(b)
	}
	for i := range room {
		room[i] = "?"
	}
}

func fill(b []byte) {
	for i := range b {
		b[i] = '!'
	}
}

// message is one that is lent.
type message struct {
	x     api.Message
	value []byte
	texts *texts
}

func lentMessage(x api.Message) *message {
	l := &message{x: x, texts: lentTexts(x.Texts)}
	l.x.Value, l.value = lent(x.Value)
	l.x.Texts = l.texts.texts
	return l
}

func (l *message) spoil(t testing.TB, want api.Message) {
	t.Helper()
	if !sameMessage(l.x, want) {
		t.Fatalf("written into: %s; was %s", shownMessage(l.x), shownMessage(want))
	}
	l.texts.spoil(t, want.Texts)
	fill(l.value)
}

// spoilText writes over the bytes of a text that was told; one byte alone may be the language's own.
func spoilText(s string) {
	if len(s) > 1 {
		fill(unsafe.Slice(unsafe.StringData(s), len(s)))
	}
}

// spoil writes over a list, its spare room too, and over the bytes of its texts.
func spoil(l []string) {
	for _, s := range l {
		spoilText(s)
	}
	l = l[:cap(l)]
	for i := range l {
		l[i] = "?"
	}
}

// spoilEffects writes over all that was told.
func spoilEffects(e api.Effects) {
	spoil(e.Saves)
	for _, x := range e.Sends {
		spoilText(x.M.Value)
		spoil(x.M.Texts)
	}
	clear(e.Sends[:cap(e.Sends)])
	for _, x := range e.Done {
		spoilText(x.Text)
		clear(x.Reply.Records[:cap(x.Reply.Records)])
	}
	clear(e.Done[:cap(e.Done)])
}

func copiedTexts(l []string) []string {
	var all []string
	for _, s := range l {
		all = append(all, strings.Clone(s))
	}
	return all
}

// copied shares no memory with e, but for the texts of records.
func copied(e api.Effects) api.Effects {
	c := api.Effects{Saves: copiedTexts(e.Saves), Sends: slices.Clone(e.Sends), Done: slices.Clone(e.Done)}
	for i := range c.Sends {
		c.Sends[i].M.Value, c.Sends[i].M.Texts = strings.Clone(c.Sends[i].M.Value), copiedTexts(c.Sends[i].M.Texts)
	}
	for i := range c.Done {
		c.Done[i].Text, c.Done[i].Reply.Records = strings.Clone(c.Done[i].Text), slices.Clone(c.Done[i].Reply.Records)
	}
	return c
}

// P3: saves, messages and texts that are handed in are neither written into nor kept, and what is told is new memory: a node of which all of that is written over is as the plain one.
func TestMemoryOfANode(t *testing.T) {
	t.Parallel()
	for seed := range uint32(150) {
		next := walk(seed + 77777)
		nodes := 1 + next(api.MaxNodes)
		self := m(next(nodes), 1)
		k := &maker{t: t, next: next, b: begun(t, true, self, nodes)}
		for range next(12) {
			k.b = begun(t, true, self, nodes, append(k.b.saves, k.save())...)
		}
		for range 120 {
			k.step()
		}
	}
}

// P3: likewise clusters, whose views change.
func TestMemoryOfClusters(t *testing.T) {
	t.Parallel()
	views := 0
	for nodes := 1; nodes <= api.MaxNodes; nodes++ {
		next := walk(uint32(nodes) + 4242)
		c := &town{t: t, rough: true}
		c.begin(nodes)
		for range 2 {
			c.adverse(next, 200)
			c.cut(next, 12)
			c.calm(45)
		}
		views += len(c.views)
	}
	if views < 10 {
		t.Error(views)
	}
}

// P3: no two messages of one answer share memory: what is written over one of them is not to be seen in another one.
func TestMessagesOfOneAnswer(t *testing.T) {
	b := bothOf(t, m(0, 1), 5, save(3, "text", 0), save(3, "other", 1))
	b.hear(t, m(1, 1), m(2, 1), m(3, 1), m(4, 1))
	apart := func(e api.Effects) {
		t.Helper()
		l := e.Sends
		for i := range l {
			for k := range l[:i] {
				if len(l[i].M.Texts) > 0 && len(l[k].M.Texts) > 0 && unsafe.SliceData(l[i].M.Texts) == unsafe.SliceData(l[k].M.Texts) {
					t.Error("two share a list")
				}
				for _, s := range l[i].M.Texts {
					for _, r := range l[k].M.Texts {
						if unsafe.StringData(s) == unsafe.StringData(r) {
							t.Error("two share a text")
						}
					}
				}
				if v, w := l[i].M.Value, l[k].M.Value; v != "" && w != "" && unsafe.StringData(v) == unsafe.StringData(w) {
					t.Error("two share a Value")
				}
			}
		}
	}
	e := b.tick(t)
	if len(e.Sends) != 8 || len(e.Sends[7].M.Texts) != 2 {
		t.Fatal(shown(e))
	}
	apart(e)
	b.ticks(t, 4)
	b.hear(t, m(1, 1), m(2, 1))
	b.ticks(t, 1)
	o := b.p.own.ballot
	b.take(t, promiseOf(m(1, 1), 2, o, "text"))
	e = b.take(t, promiseOf(m(2, 1), 2, o, "text"))
	if len(e.Sends) != 4 {
		t.Fatal(shown(e))
	}
	apart(e)
	b.take(t, takenOf(m(1, 1), 2, o))
	e = b.take(t, takenOf(m(2, 1), 2, o))
	if len(e.Sends) != 4 {
		t.Fatal(shown(e))
	}
	apart(e)
}

// P3: Encode and Decode keep nothing of what they are handed, and tell new memory.
func TestMemoryOfMessages(t *testing.T) {
	for _, x := range rightMessages() {
		if len(x.Value)+len(x.Texts) > 5000 {
			continue
		}
		want := bytesOf(x)
		l := lentMessage(x)
		node.Right(l.x)
		s, e := node.Encode(l.x)
		l.spoil(t, x)
		if s != want || e != api.OK {
			t.Fatalf("Encode keeps what it was handed: %s", brief(s))
		}
		bytes, b := lent(s)
		first, _ := node.Decode(bytes)
		second, _ := node.Decode(bytes)
		fill(b)
		spoilText(first.Value)
		spoil(first.Texts)
		if !sameMessage(second, x) {
			t.Fatalf("Decode: %s; want %s", shownMessage(second), shownMessage(x))
		}
		spoilText(s)
		if again, _ := node.Encode(x); again != want {
			t.Fatalf("Encode tells what it told: %s", brief(again))
		}
	}
}
