// Package codec is layer 1: items as bytes (see shared/doc/01-codec.md).
package codec

import (
	"strings"

	"carillon/api"
)

// letters are those of a shape, in the order of the kinds from api.IByte on.
const letters = "bwlt"

// star stands in a shape ahead of the letters that come again and again.
const star = "*"

// Encode tells the items as bytes, one behind the other.
func Encode(l []api.Item) (string, api.Errno) {
	if len(l) > api.MaxItems {
		return "", api.ErrLong
	}
	size := 0
	for _, x := range l {
		if fault := itemFault(x); fault != api.OK {
			return "", fault
		}
		size += width(x.Kind) + len(x.S)
	}
	var b strings.Builder
	b.Grow(size)
	for _, x := range l {
		writeItem(&b, x)
	}
	return b.String(), api.OK
}

// Decode tells the items that s is, by the letters of the shape.
func Decode(shape, s string) ([]api.Item, api.Errno) {
	if !isShape(shape) {
		return nil, api.ErrArg
	}
	first, again, _ := strings.Cut(shape, star)
	return readItems(first, again, s)
}

// Shape tells a letter an item.
func Shape(l []api.Item) (string, api.Errno) {
	var b strings.Builder
	b.Grow(len(l))
	for _, x := range l {
		if !isKind(x.Kind) {
			return "", api.ErrArg
		}
		b.WriteByte(letters[x.Kind-api.IByte])
	}
	return b.String(), api.OK
}
