package view

import (
	"iter"
	"slices"

	"carillon/api"
)

// each goes over the members of a list.
func each(l []api.Member) iter.Seq[api.Member] {
	return func(yield func(api.Member) bool) {
		for _, m := range l {
			if !yield(m) {
				return
			}
		}
	}
}

// eachNext goes over the nodes that are both in alive, whose members are right, and in wanted, rising, each with its greatest Life.
func eachNext(alive []api.Member, wanted []int) iter.Seq[api.Member] {
	return func(yield func(api.Member) bool) {
		for node, life := range greatestLives(alive) {
			if life == 0 || !slices.Contains(wanted, node) {
				continue
			}
			if !yield(api.Member{Node: node, Life: life}) {
				return
			}
		}
	}
}

// greatestLives tells of each node its greatest Life in a list whose members are right, 0 if it is not there.
func greatestLives(l []api.Member) [api.MaxNodes]int {
	var lives [api.MaxNodes]int
	for m := range each(l) {
		lives[m.Node] = max(lives[m.Node], m.Life)
	}
	return lives
}

func allRight(l []api.Member) bool {
	for m := range each(l) {
		if !RightMember(m) {
			return false
		}
	}
	return true
}
