package digest

import "replica/api"

const hexDigits = "0123456789abcdef"

// Hex writes a digest with 64 lower-case hexadecimal digits.
func Hex(sum [32]byte) string {
	var out [64]byte
	for i := range 32 {
		out[2*i] = hexDigits[sum[i]>>4]
		out[2*i+1] = hexDigits[sum[i]&15]
	}
	return string(out[:])
}

// Unhex reads what Hex writes (capital letters are taken too).
func Unhex(s string) ([32]byte, api.Errno) {
	if len(s) != 64 {
		return [32]byte{}, api.ErrHex
	}
	var sum [32]byte
	for i := range 32 {
		high, highOk := hexValue(s[2*i])
		low, lowOk := hexValue(s[2*i+1])
		if !highOk || !lowOk {
			return [32]byte{}, api.ErrHex
		}
		sum[i] = high<<4 | low
	}
	return sum, api.OK
}

// hexValue tells what a hexadecimal digit counts, and whether it is one.
func hexValue(digit byte) (byte, bool) {
	switch {
	case '0' <= digit && digit <= '9':
		return digit - '0', true
	case 'a' <= digit && digit <= 'f':
		return digit - 'a' + 10, true
	case 'A' <= digit && digit <= 'F':
		return digit - 'A' + 10, true
	}
	return 0, false
}
