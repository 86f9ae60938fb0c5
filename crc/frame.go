package crc

const (
	lengthSize = 4              // bytes of a frame's length
	headSize   = lengthSize + 4 // with those of its sum: what stands ahead of the body
)

// frameSum is of the length too, so that a length that was spoilt is found out.
func frameSum(length, body string) uint32 {
	return More(Sum(length), body)
}

// fourBytes tells n, the greatest byte first.
func fourBytes(n uint32) string {
	return string([]byte{byte(n >> 24), byte(n >> 16), byte(n >> 8), byte(n)})
}

// word is the number that the first four bytes of s are; they must be there.
func word(s string) uint32 {
	return uint32(s[0])<<24 | uint32(s[1])<<16 | uint32(s[2])<<8 | uint32(s[3])
}
