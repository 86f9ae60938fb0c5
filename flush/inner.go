package flush

import (
	"strings"

	"carillon/api"
)

// lengthSize is what a text of a code has beside its bytes.
const lengthSize = 4

// shared tells how many texts, from the first one on, all of the logs have.
func shared(first []string, others ...[]string) int {
	n := 0
places:
	for i, s := range first {
		for _, log := range others {
			if i >= len(log) || log[i] != s {
				break places
			}
		}
		n++
	}
	return n
}

// longest tells one of the logs that have the most texts.
func longest(logs ...[]string) []string {
	var most []string
	for _, log := range logs {
		if len(log) > len(most) {
			most = log
		}
	}
	return most
}

// cloned shares no memory with the texts.
func cloned(texts ...string) []string {
	var l []string
	for _, s := range texts {
		l = append(l, strings.Clone(s))
	}
	return l
}

// size tells how many bytes the texts have in a code.
func size(texts ...string) int {
	n := 0
	for _, s := range texts {
		n += lengthSize + len(s)
	}
	return n
}

// items tells the texts as those of a code.
func items(texts ...string) []api.Item {
	var l []api.Item
	for _, s := range texts {
		l = append(l, api.Item{Kind: api.IText, S: s})
	}
	return l
}

// texts tells those of a code's items.
func texts(items ...api.Item) []string {
	var l []string
	for _, x := range items {
		l = append(l, x.S)
	}
	return l
}
