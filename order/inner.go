package order

import (
	"slices"
	"strings"

	"carillon/api"
)

// textCount is what a text counts beside its bytes.
const textCount = 4

// rising tells whether nodes are numbers of nodes that rise, so that there are never too many.
func rising(nodes []int) bool {
	ahead := -1
	for _, node := range nodes {
		if node <= ahead || node >= api.MaxNodes {
			return false
		}
		ahead = node
	}
	return true
}

// asks tells whether self is to know what node has.
func (o *Order) asks(node int) bool {
	return o.First() && node != o.self && slices.Contains(o.nodes, node)
}

// fits tells whether there is room for s.
func (o *Order) fits(s string) bool {
	return o.bytes+len(s)+textCount <= api.MaxLog
}

// keep has s be the last text.
func (o *Order) keep(s string) {
	o.log = append(o.log, strings.Clone(s))
	o.bytes += len(s) + textCount
	o.had[o.self] = len(o.log)
}

// makeSure finds what is sure anew, at the sequencer: what more than half have. As what a node has never gets less, nor does this.
func (o *Order) makeSure() {
	var counts [api.MaxNodes]int
	sorted := counts[:len(o.nodes)]
	for i, node := range o.nodes {
		sorted[i] = o.had[node]
	}
	slices.Sort(sorted)
	o.sure = sorted[(len(sorted)-1)/2] // of an even number half are too few
}

// cloned shares no memory with l.
func cloned(l []string) []string {
	all := make([]string, len(l))
	for i, s := range l {
		all[i] = strings.Clone(s)
	}
	return all
}
