package codec

import (
	"strings"

	"carillon/api"
)

func isKind(kind int) bool {
	return kind >= api.IByte && kind <= api.IText
}

// width is how many bytes the number of a kind takes; a text's number is its length.
func width(kind int) int {
	switch kind {
	case api.IByte:
		return 1
	case api.ILong:
		return 8
	}
	return 4
}

// fits asks whether n has no bits beyond its bytes; of eight bytes none is beyond, as a shift by 64 leaves nothing.
func fits(n uint64, size int) bool {
	return n>>(8*uint(size)) == 0
}

// itemFault is what keeps x from being written; ErrArg is told ahead of ErrLong.
func itemFault(x api.Item) api.Errno {
	switch {
	case !isKind(x.Kind):
		return api.ErrArg
	case x.Kind != api.IText && (x.S != "" || !fits(x.N, width(x.Kind))):
		return api.ErrArg
	case x.Kind == api.IText && x.N != 0:
		return api.ErrArg
	case len(x.S) > api.MaxText:
		return api.ErrLong
	}
	return api.OK
}

// writeItem writes an item that has no fault.
func writeItem(b *strings.Builder, x api.Item) {
	n := x.N
	if x.Kind == api.IText {
		n = uint64(len(x.S))
	}
	writeNumber(b, n, width(x.Kind))
	b.WriteString(x.S)
}

func writeNumber(b *strings.Builder, n uint64, size int) {
	for left := size - 1; left >= 0; left-- {
		b.WriteByte(byte(n >> (8 * uint(left))))
	}
}
