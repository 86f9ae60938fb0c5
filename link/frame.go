package link

import (
	"carillon/api"
	"carillon/codec"
	"carillon/crc"
)

const (
	great = 1<<53 - 1 // the greatest number of a frame
	shape = "llllt"   // Epoch, Peer, Seq, Ack, Body
)

// Encode tells a frame of a session as bytes.
func Encode(f api.Frame) (string, api.Errno) {
	if !isRight(f) {
		return "", api.ErrArg
	}
	code, _ := codec.Encode(itemsOf(f)) // what is right is within the limits of a code, and of a frame
	return crc.Frame(code)
}

// Decode tells the frame of a session that s is.
func Decode(s string) (api.Frame, api.Errno) {
	code, size, err := crc.Take(s)
	if err != api.OK {
		return api.Frame{}, err
	}
	if size != len(s) {
		return api.Frame{}, api.ErrForm
	}
	f, ok := frameOf(code)
	if !ok {
		return api.Frame{}, api.ErrForm
	}
	return f, api.OK
}

func isEpoch(n int) bool {
	return n != 0 && isNumber(n)
}

func isNumber(n int) bool {
	return 0 <= n && n <= great
}

func isRight(f api.Frame) bool {
	numbers := isEpoch(f.Epoch) && isNumber(f.Peer) && isNumber(f.Seq) && isNumber(f.Ack)
	body := len(f.Body) <= api.MaxText && (f.Seq != 0 || f.Body == "")
	return numbers && body
}

// itemsOf tells the items of a right frame's code.
func itemsOf(f api.Frame) []api.Item {
	return []api.Item{
		{Kind: api.ILong, N: uint64(f.Epoch)},
		{Kind: api.ILong, N: uint64(f.Peer)},
		{Kind: api.ILong, N: uint64(f.Seq)},
		{Kind: api.ILong, N: uint64(f.Ack)},
		{Kind: api.IText, S: f.Body},
	}
}

// frameOf tells the right frame whose code it is; false, if it is none's.
func frameOf(code string) (api.Frame, bool) {
	l, fault := codec.Decode(shape, code)
	if fault != api.OK {
		return api.Frame{}, false
	}
	f := api.Frame{
		// A long that is past all numbers of its kind is below 0 then, and so not right either.
		Epoch: int(l[0].N),
		Peer:  int(l[1].N),
		Seq:   int(l[2].N),
		Ack:   int(l[3].N),
		Body:  l[4].S,
	}
	return f, isRight(f)
}
