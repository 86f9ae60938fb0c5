package net

import (
	"slices"
	"strings"

	"carillon/api"
)

// ends are the node that a link comes from, and the one that it goes to.
type ends [2]int

// link holds the messages from one node to another one. A link that is not there, nil, has no message, and no room for one.
type link struct {
	messages []string // in the order in which they were sent
}

// linksOf tells all links of n nodes: none goes from a node to itself.
func linksOf(n int) map[ends]*link {
	links := map[ends]*link{}
	for from := range n {
		for to := range n {
			if from != to {
				links[ends{from, to}] = &link{}
			}
		}
	}
	return links
}

func (l *link) len() int {
	if l == nil {
		return 0
	}
	return len(l.messages)
}

func (l *link) has(i int) bool {
	return 0 <= i && i < l.len()
}

func (l *link) hasRoom() bool {
	return l != nil && len(l.messages) < api.MaxQueue
}

func (l *link) add(s string) {
	l.messages = append(l.messages, strings.Clone(s)) // as nothing is kept that was handed in, and a double is told in memory of its own
}

func (l *link) remove(i int) string {
	s := l.messages[i]
	l.messages = slices.Delete(l.messages, i, i+1)
	return s
}
