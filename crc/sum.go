package crc

// halves has for each half of a byte what is XORed in while its four bits are shifted out. Of halves, as a table of all bytes is too long to stand written out.
var halves = [16]uint32{
	0x00000000, 0x105ec76f, 0x20bd8ede, 0x30e349b1,
	0x417b1dbc, 0x5125dad3, 0x61c69362, 0x7198540d,
	0x82f63b78, 0x92a8fc17, 0xa24bb5a6, 0xb21572c9,
	0xc38d26c4, 0xd3d3e1ab, 0xe330a81a, 0xf36e6f75,
}

// shift goes on from what there is by the bytes of s: the lower half of each first, as its lowest bits come first.
func shift(bits uint32, s string) uint32 {
	for i := range len(s) {
		bits ^= uint32(s[i])
		bits = bits>>4 ^ halves[bits&15]
		bits = bits>>4 ^ halves[bits&15]
	}
	return bits
}
