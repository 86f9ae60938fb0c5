package view

import (
	"iter"
	"slices"

	"carillon/api"
	"carillon/codec"
)

// shape is that of a view's code: the Number, then of each member the Node and the Life.
const shape = "l*bl"

// Encode tells a view as bytes.
func Encode(v api.View) (string, api.Errno) {
	if !Right(v) {
		return "", api.ErrArg
	}
	return codec.Encode(itemsOf(v)) // what is right is within the limits of a code
}

// Decode tells the view that s is.
func Decode(s string) (api.View, api.Errno) {
	l, fault := codec.Decode(shape, s)
	if fault != api.OK {
		return api.View{}, fault
	}
	v := viewOf(l)
	if !Right(v) {
		return api.View{}, api.ErrForm
	}
	return v, api.OK
}

// itemsOf tells the items of a right view's code.
func itemsOf(v api.View) []api.Item {
	l := []api.Item{{Kind: api.ILong, N: uint64(v.Number)}}
	for m := range each(v.Members) {
		l = append(l, api.Item{Kind: api.IByte, N: uint64(m.Node)}, api.Item{Kind: api.ILong, N: uint64(m.Life)})
	}
	return l
}

// viewOf tells the view of the items of a code, right or not.
func viewOf(l []api.Item) api.View {
	// A long that is past all numbers of its kind is below 0 then, and so not right either.
	return api.View{Number: int(l[0].N), Members: slices.Collect(eachCoded(l[1:]))}
}

// eachCoded goes over the members that items are, two items a member.
func eachCoded(l []api.Item) iter.Seq[api.Member] {
	return func(yield func(api.Member) bool) {
		for pair := range slices.Chunk(l, 2) {
			if !yield(api.Member{Node: int(pair[0].N), Life: int(pair[1].N)}) {
				return
			}
		}
	}
}
