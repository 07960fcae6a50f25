package digest

// castagnoli: the polynomial of CRC-32C, its bits in turned order, since the lowest bit goes first.
const castagnoli = 0x82f63b78

// Crc tells the CRC-32C (Castagnoli) of p.
func Crc(p []byte) uint32 { return CrcMore(0, p) }

// CrcMore tells the CRC-32C of some bytes followed by p, given the CRC-32C of those bytes.
func CrcMore(crc uint32, p []byte) uint32 {
	word := ^crc
	for i := range len(p) {
		word = crcByte(word ^ uint32(p[i]))
	}
	return ^word
}

// crcByte shifts eight bits out of the word.
func crcByte(word uint32) uint32 {
	for range 8 {
		if word&1 == 1 {
			word = word>>1 ^ castagnoli
		} else {
			word >>= 1
		}
	}
	return word
}
