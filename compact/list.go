package compact

import (
	"cmp"
	"slices"
	"strings"

	"carillon/api"
)

// lastPlaces tells of each key where its last record stands in the list.
func lastPlaces(l []api.Record) map[string]int {
	last := make(map[string]int)
	for i, r := range l {
		last[r.Key] = i
	}
	return last
}

// goes tells whether the record r, at i, is superseded and below upto.
func goes(r api.Record, i int, last map[string]int, upto int) bool {
	return r.Key != "" && last[r.Key] > i && r.Offset < upto
}

// own tells a record that shares no bytes with the one that was handed in.
func own(r api.Record) api.Record {
	r.Producer, r.Key, r.Value = strings.Clone(r.Producer), strings.Clone(r.Key), strings.Clone(r.Value)
	return r
}

// between tells the records from base on, and below next, of a list that rises.
func between(l []api.Record, base, next int) []api.Record {
	return l[place(l, base):place(l, next)]
}

// place tells where in a list that rises the first record is whose Offset is offset or more.
func place(l []api.Record, offset int) int {
	at, _ := slices.BinarySearchFunc(l, offset, func(r api.Record, n int) int { return cmp.Compare(r.Offset, n) })
	return at
}
