package codec

import (
	"strings"

	"carillon/api"
)

func isShape(shape string) bool {
	first, again, starred := strings.Cut(shape, star)
	if starred && again == "" {
		return false
	}
	return allLetters(first) && allLetters(again)
}

// allLetters goes by bytes, so that a byte that is no letter is refused wherever a rune may begin.
func allLetters(s string) bool {
	for i := range len(s) {
		if strings.IndexByte(letters, s[i]) < 0 {
			return false
		}
	}
	return true
}

// readItems reads s by the letters of first, once, and by those of again while s goes on. Each letter takes a byte at least, so it ends.
func readItems(first, again, s string) ([]api.Item, api.Errno) {
	var items []api.Item
	var item api.Item
	var fault api.Errno
	todo, rest := first, s

letter:
	if todo == "" {
		goto round
	}
	// Ahead of the reading: an item too many is told even where s has ended.
	if len(items) == api.MaxItems {
		return nil, api.ErrLong
	}
	item, rest, fault = readItem(todo[0], rest)
	if fault != api.OK {
		return nil, fault
	}
	items = append(items, item)
	todo = todo[1:]
	goto letter

round:
	if rest == "" {
		return items, api.OK
	}
	if again == "" {
		return nil, api.ErrForm
	}
	todo = again
	goto letter
}

// readItem reads the item of a letter from the beginning of s, and tells what is left of s.
func readItem(letter byte, s string) (api.Item, string, api.Errno) {
	kind := strings.IndexByte(letters, letter) + api.IByte
	size := width(kind)
	if len(s) < size {
		return api.Item{}, "", api.ErrShort
	}
	n, rest := number(s[:size]), s[size:]
	if kind == api.IText {
		return readText(n, rest)
	}
	return api.Item{Kind: kind, N: n}, rest, api.OK
}

// readText holds the length against the limit first: a text that is too long need not be there.
func readText(length uint64, s string) (api.Item, string, api.Errno) {
	if length > api.MaxText {
		return api.Item{}, "", api.ErrLong
	}
	size := int(length)
	if len(s) < size {
		return api.Item{}, "", api.ErrShort
	}
	// A copy, as an answer shares no memory with what was handed in.
	return api.Item{Kind: api.IText, S: strings.Clone(s[:size])}, s[size:], api.OK
}

func number(s string) uint64 {
	n := uint64(0)
	for i := range len(s) {
		n = n<<8 | uint64(s[i])
	}
	return n
}
