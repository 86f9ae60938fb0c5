package disk

import (
	"math"
	"slices"
	"strings"
)

// file is itself under whatever names it has: its bytes now, those that last, and what was done since, which may be lost.
type file struct {
	now     []byte
	lasting []byte
	since   []byteAct // done again on lasting, in their order, they make it now
}

// byteAct is an Append or a Truncate. It is done at once on the bytes of now, and perhaps again, later, on those that last: the first units of it then.
type byteAct struct {
	units int
	do    func(bytes []byte, units int) []byte
}

func appending(s string) byteAct {
	s = strings.Clone(s) // as nothing is kept that was handed in
	return byteAct{units: len(s), do: func(bytes []byte, units int) []byte {
		return append(bytes, s[:units]...)
	}}
}

func truncating(n int) byteAct {
	return byteAct{units: 1, do: func(bytes []byte, _ int) []byte { return bytes[:n] }}
}

func (f *file) act(a byteAct) {
	f.now = a.do(f.now, a.units)
	f.since = append(f.since, a)
}

// settle has the first units since last; there is no more to be lost then.
func (f *file) settle(units int) {
	for _, a := range f.since {
		if units <= 0 {
			break
		}
		some := min(units, a.units)
		f.lasting = a.do(f.lasting, some)
		units -= some
	}
	f.since = nil
}

func (f *file) settleAll() {
	f.settle(math.MaxInt) // more units than there can be
}

// crash loses what was done behind the first units.
func (f *file) crash(units int) {
	f.settle(units)
	f.now = slices.Clone(f.lasting)
}
