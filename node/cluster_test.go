package node_test

import (
	"fmt"
	"slices"
	"testing"

	"carillon/api"
	"carillon/machine"
	"carillon/node"
	"carillon/view"
)

// town is a cluster whose messages are lost, doubled and late, and whose nodes begin again.
type town struct {
	t      testing.TB
	nodes  []*both // nil: it is down
	saves  [][]string
	lives  []int
	way    []api.Send
	views  map[int]api.View
	bases  map[int][]string // what logs the views began with
	whole  []api.Done       // what was done anywhere, place by place
	all    *machine.Machine // which does just that
	asks   int
	begun  int // how many proposals were begun
	booted int
	rough  bool
}

func townOf(t testing.TB, nodes int) *town {
	c := &town{t: t}
	c.begin(nodes)
	return c
}

func (c *town) begin(nodes int) {
	c.nodes, c.saves, c.lives = make([]*both, nodes), make([][]string, nodes), make([]int, nodes)
	c.views, c.bases = map[int]api.View{}, map[int][]string{}
	c.all, _ = machine.New(nodes)
	for n := range nodes {
		c.lives[n] = 1
		c.boot(n)
	}
}

func (c *town) boot(n int) {
	c.nodes[n] = begun(c.t, c.rough, m(n, c.lives[n]), len(c.nodes), c.saves[n]...)
	c.booted++
	c.hold(n)
}

// crash has a node be down; what it asked to save stays.
func (c *town) crash(n int) {
	c.saves[n] = c.nodes[n].saves
	c.nodes[n] = nil
}

// wipe has a node that is down have another life, and no saves.
func (c *town) wipe(n int) {
	c.saves[n] = nil
	c.lives[n]++
}

// after takes up what came of a call, and asks that it agrees with all that was done.
func (c *town) after(n int, e api.Effects) {
	for _, x := range e.Sends {
		if x.M.From != n || x.M.Life != c.lives[n] || !node.Right(x.M) {
			c.t.Fatalf("node %d sends %s", n, shownMessage(x.M))
		}
		if x.M.Kind == api.MPrepare {
			c.begun++
		}
	}
	c.way = append(c.way, e.Sends...)
	for _, x := range e.Done {
		if x.Place == len(c.whole) {
			x.Reply = c.all.Apply(x.Text)
			c.whole = append(c.whole, x)
		}
	}
	for _, x := range e.Done {
		if x.Place > len(c.whole) || !sameEffects(api.Effects{Done: []api.Done{x}}, api.Effects{Done: c.whole[x.Place : x.Place+1]}) {
			c.t.Fatalf("node %d did %v; others %v", n, x, c.whole[x.Place])
		}
	}
	c.hold(n)
}

// hold asks P20.7 of a node: its log is sure as far as others' are, and its view is that of all who have one of this Number.
func (c *town) hold(n int) {
	x := c.nodes[n].x
	log, sure := x.Log(), x.Sure()
	for place, s := range log[:min(sure, len(c.whole))] {
		if s != c.whole[place].Text {
			c.t.Fatalf("node %d: %s is sure at %d; elsewhere %s", n, brief(s), place, brief(c.whole[place].Text))
		}
	}
	v := x.View()
	if v.Number == 0 {
		return
	}
	base := log[:c.nodes[n].p.base]
	known, ok := c.views[v.Number]
	if ok && (!sameView(known, v) || !slices.Equal(base, c.bases[v.Number])) {
		c.t.Fatalf("node %d: %v with %s; elsewhere %v with %s", n, v, shownTexts(base), known, shownTexts(c.bases[v.Number]))
	}
	if ok {
		return
	}
	c.views[v.Number], c.bases[v.Number] = v, base
	ahead, ok := c.views[v.Number-1]
	if v.Number > 1 && (!ok || view.Common(ahead, v)*2 <= len(ahead.Members)) {
		c.t.Fatalf("%v behind %v, %v", v, ahead, ok)
	}
	if len(base) < len(c.whole) {
		c.t.Fatalf("%v begins with %d texts; %d were done", v, len(base), len(c.whole))
	}
}

func (c *town) tick(n int) {
	if x := c.nodes[n]; x != nil {
		c.after(n, x.tick(c.t))
	}
}

// come has the i-th letter that is on its way come.
func (c *town) come(i int) {
	x := c.way[i]
	c.way = slices.Delete(c.way, i, i+1)
	if to := c.nodes[x.To]; to != nil {
		c.after(x.To, to.take(c.t, x.M))
	}
}

// ask asks a node for a command that none had, and tells the code.
func (c *town) ask(n int, x api.Command) int {
	c.asks++
	x.Node, x.Ask = n, c.asks
	code, e := c.nodes[n].propose(c.t, code(c.t, x))
	c.after(n, e)
	return code
}

// anyCommand tells one of each Kind.
func (c *town) anyCommand(next func(int) int) api.Command {
	last := len(c.nodes) - 1
	switch next(13) {
	case 0, 1:
		return api.Command{Kind: api.CCreate, Topic: fmt.Sprint("t", next(3))}
	case 2, 3, 4:
		return api.Command{Kind: api.CPublish, Topic: fmt.Sprint("t", next(3)), Name: fmt.Sprint("p", next(2)), Seq: c.asks, Key: fmt.Sprint(next(3)), Value: times("v", next(9))}
	case 5:
		return api.Command{Kind: api.CSubscribe, Topic: fmt.Sprint("t", next(3)), Name: fmt.Sprint("s", next(3)), N: next(3) - 1}
	case 6:
		return api.Command{Kind: api.CAttach, Name: fmt.Sprint("s", next(3))}
	case 7, 8:
		return api.Command{Kind: api.CPoll, Name: fmt.Sprint("s", next(3)), N: 1 + next(50)}
	case 9:
		return api.Command{Kind: api.CAck + next(2), Name: fmt.Sprint("s", next(3)), N: next(5)}
	case 10:
		return api.Command{Kind: api.CTrim + next(2), Topic: fmt.Sprint("t", next(3)), N: next(4)}
	case 11:
		if c.allIn() {
			return api.Command{Kind: api.CLeave, N: last}
		}
	}
	return api.Command{Kind: api.CJoin, N: last}
}

// allIn tells whether each node is of the last view, in the life that it has: while one is out, another that leaves may be one too many for there to be a next view at all (P12.2).
func (c *town) allIn() bool {
	for n, life := range c.lives {
		if !view.Has(c.views[len(c.views)], m(n, life)) {
			return false
		}
	}
	return true
}

// calm has the net be whole, and all be up.
func (c *town) calm(rounds int) {
	c.t.Helper()
	c.way = nil
	for n, x := range c.nodes {
		if x == nil {
			c.boot(n)
		}
	}
	c.rounds(rounds)
}

// rounds has all tick in turn, while all messages come, in their order.
func (c *town) rounds(many int) {
	c.t.Helper()
	for range many {
		for n := range c.nodes {
			c.tick(n)
			for many := 0; len(c.way) > 0; many++ {
				if many > 10000 {
					c.t.Fatal("there is no end of messages")
				}
				c.come(0)
			}
		}
	}
}

// join asks for the last node to be wanted, where too few members of the view are wanted for there to be a next one (P12.2).
func (c *town) join() {
	c.t.Helper()
	v := c.views[len(c.views)]
	wanted := 0
	for _, x := range v.Members {
		if slices.Contains(c.all.Wanted(), x.Node) {
			wanted++
		}
	}
	if wanted*2 > len(v.Members) {
		return
	}
	if code := c.ask(v.Members[0].Node, api.Command{Kind: api.CJoin, N: len(c.nodes) - 1}); code != api.ROK {
		c.t.Fatalf("%v: %d", v, code)
	}
	c.calm(45)
}

// settled asks that all wanted nodes are in one view, go on in it, and have done all.
func (c *town) settled() {
	c.t.Helper()
	wanted := c.all.Wanted()
	v := c.views[len(c.views)]
	for _, n := range wanted {
		x := c.nodes[n].x
		if !sameView(x.View(), v) || !view.Has(v, m(n, c.lives[n])) || !x.Primary() || x.Sure() != len(x.Log()) || x.Sure() != len(c.whole) {
			c.t.Fatalf("node %d: %v of %v, wanted %v; Primary %v, Sure %d of %d, %d were done", n, x.View(), v, wanted, x.Primary(), x.Sure(), len(x.Log()), len(c.whole))
		}
		if x.Machine().Digest() != c.all.Digest() {
			c.t.Fatalf("node %d: another digest", n)
		}
	}
}

// P20.7, T5: clusters of 1 to MaxNodes nodes that tick in turn and whose messages all come are in view 1, and do what is asked at each of them, with each Kind of command.
func TestCalmClusters(t *testing.T) {
	t.Parallel()
	for nodes := 1; nodes <= api.MaxNodes; nodes++ {
		c := townOf(t, nodes)
		next := walk(uint32(nodes))
		for n := range nodes {
			want := api.RNotPrimary
			if nodes == 1 {
				want = api.ROK
			}
			if code := c.ask(n, api.Command{Kind: api.CCreate, Topic: "first"}); code != want {
				t.Fatalf("%d nodes: %d; want %d", nodes, code, want)
			}
		}
		c.rounds(1)
		for range 120 {
			x := c.anyCommand(next)
			if x.Kind == api.CLeave || x.Kind == api.CJoin {
				x = api.Command{Kind: api.CJoin, N: 0}
			}
			if code := c.ask(next(nodes), x); code != api.ROK {
				t.Fatalf("%d nodes: %d", nodes, code)
			}
			if next(3) == 0 {
				c.rounds(1)
			}
		}
		c.rounds(40)
		c.settled()
		if len(c.views) != 1 || len(c.whole) < 120 {
			t.Errorf("%d nodes: %d views, %d were done", nodes, len(c.views), len(c.whole))
		}
	}
}

// adverse has so many steps be done in which messages are lost, doubled and late, nodes go down and begin again.
func (c *town) adverse(next func(int) int, steps int) {
	nodes := len(c.nodes)
	bad := next(4) // some times are worse than others
	for range steps {
		n := next(nodes)
		switch k := next(40); {
		case k < 12:
			c.tick(n)
		case k < 34 && len(c.way) > 0:
			i := next(min(len(c.way), 1+20*bad)) // what is late comes behind others
			if next(12) < bad {
				c.way = append(c.way, c.way[i])
			}
			if next(16) < bad {
				c.way = slices.Delete(c.way, i, i+1)
			} else {
				c.come(i)
			}
		case k < 37 && c.nodes[n] != nil:
			c.ask(n, c.anyCommand(next))
		case k == 38 && bad > 1 && c.nodes[n] != nil && next(4) == 0:
			c.crash(n)
		case k == 39 && c.nodes[n] == nil:
			c.boot(n)
		}
		if len(c.way) > 400 {
			c.way = c.way[200:]
		}
	}
}

// cut has some of the nodes go on for so many rounds without the others, or the others without them.
func (c *town) cut(next func(int) int, rounds int) {
	side := next(1 << len(c.nodes))
	for range rounds {
		for n := range c.nodes {
			c.tick(n)
		}
		for len(c.way) > 0 {
			x := c.way[0]
			if side>>x.To&1 == side>>x.M.From&1 {
				c.come(0)
			} else {
				c.way = c.way[1:]
			}
		}
		if n := next(len(c.nodes)); c.nodes[n] != nil {
			c.ask(n, c.anyCommand(next))
		}
	}
}

// keeps tells whether of each view less than half of the members were wiped: T3 and T5 ask for that.
func (c *town) keeps() bool {
	for _, v := range c.views {
		gone := 0
		for _, x := range v.Members {
			if x.Life < c.lives[x.Node] {
				gone++
			}
		}
		if gone*2 >= len(v.Members) {
			return false
		}
	}
	return true
}

// wipeSome has a node have another life, if that keeps enough of each view.
func (c *town) wipeSome(n int) bool {
	c.lives[n]++
	may := c.keeps()
	c.lives[n]--
	if may {
		c.crash(n)
		c.wipe(n)
	}
	return may
}

// P20.7, T1, T3, T4, T5: whatever is lost, doubled and late, and whoever begins again, what is done is one list, views are one sequence; and when the net is whole, all goes on.
func TestAdverseClusters(t *testing.T) {
	for nodes := 1; nodes <= api.MaxNodes; nodes++ {
		t.Run(fmt.Sprint(nodes), func(t *testing.T) {
			t.Parallel()
			views, done, begun, wiped, booted, lost := 0, 0, 0, 0, 0, 0
		seeds:
			for seed := range uint32(9) {
				next := walk(seed*8 + uint32(nodes))
				c := townOf(t, nodes)
				for range 4 {
					c.adverse(next, 300)
					c.cut(next, 12)
					c.adverse(next, 50)
					c.calm(45)
					if !c.keeps() {
						lost++
						continue seeds // a view came up in which half had been wiped already
					}
					c.join()
					c.settled()
					if n := next(nodes); next(2) == 0 && c.wipeSome(n) {
						wiped++
					}
				}
				c.calm(45)
				c.settled()
				views, done, begun, booted = views+len(c.views), done+len(c.whole), begun+c.begun, booted+c.booted
			}
			if done < 100 || nodes > 2 && (views < 50 || begun < 300 || wiped < 1 || booted < 40) {
				t.Errorf("%d nodes: %d views, %d done, %d begun, %d wiped, %d booted, %d lost", nodes, views, done, begun, wiped, booted, lost)
			}
		})
	}
}
