package proposer

import (
	"carillon/api"
)

// mark is how a node stands with what all nodes are asked.
type mark byte

const (
	stranger mark = 0 // it is none of the nodes, and is not asked
	silent   mark = 1
	answered mark = 2
)

// roll has each node's mark, by its number.
type roll [api.MaxNodes]mark

// rollOf tells a roll of nodes that are silent; false, if they are not numbers of nodes, each once.
func rollOf(nodes []int) (roll, bool) {
	var r roll
	for _, node := range nodes {
		if !isNode(node) || r[node] != stranger {
			return roll{}, false
		}
		r[node] = silent
	}
	return r, len(nodes) > 0
}

func isNode(node int) bool {
	return 0 <= node && node < api.MaxNodes
}

func (r roll) awaits(node int) bool {
	return isNode(node) && r[node] == silent
}

func (r roll) hasMajority() bool {
	silence, answers := 0, 0
	for _, m := range r {
		switch m {
		case silent:
			silence++
		case answered:
			answers++
		}
	}
	return answers > silence
}

// anew tells a roll of the same nodes, for the next thing that they are asked.
func (r roll) anew() roll {
	for node, m := range r {
		if m == answered {
			r[node] = silent
		}
	}
	return r
}

func (r roll) missing() []int {
	var l []int
	for node := range r {
		if r.awaits(node) {
			l = append(l, node)
		}
	}
	return l
}
