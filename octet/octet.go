// Package octet is layer 1: bytes and numbers (shared/doc/01-octet.md).
package octet

import (
	"nepenthe/api"
)

// wordSize is how many bytes a uint64 has; more can't come out of one, nor go into one.
const wordSize = 8

// maxFill bounds what Fill answers, so that no number that comes in asks for too much memory.
const maxFill = 65536

// digits holds the hexadecimal digits, each at its value. Unhex goes over the same array, so that both agree on what a digit is.
var digits = [16]byte{'0', '1', '2', '3', '4', '5', '6', '7', '8', '9', 'a', 'b', 'c', 'd', 'e', 'f'}

// Big answers the k low bytes of n, the most significant first; k is taken as 0 if below, as 8 if above.
func Big(n uint64, k int) []byte {
	size := within(k, wordSize)
	out := make([]byte, size)
	for i := range size {
		out[size-1-i] = byte(n)
		n >>= 8
	}
	return out
}

// Num answers the number of the last eight bytes of b (of all, if fewer), the most significant first.
func Num(b []byte) uint64 {
	var n uint64
	for _, x := range b[len(b)-within(len(b), wordSize):] {
		n = n<<8 | uint64(x)
	}
	return n
}

// Little answers the k low bytes of n, the most significant last; k is taken as 0 if below, as 8 if above.
func Little(n uint64, k int) []byte {
	size := within(k, wordSize)
	out := make([]byte, size)
	for i := range size {
		out[i] = byte(n)
		n >>= 8
	}
	return out
}

// NumLittle answers the number of the first eight bytes of b (of all, if fewer), the most significant last.
func NumLittle(b []byte) uint64 {
	var n uint64
	size := within(len(b), wordSize)
	for i := range size {
		n = n<<8 | uint64(b[size-1-i])
	}
	return n
}

// Xor answers a and b, xored byte by byte: ErrShape, if they are not as long.
func Xor(a, b []byte) ([]byte, api.Errno) {
	if len(a) != len(b) {
		return nil, api.ErrShape
	}
	out := make([]byte, len(a))
	for i := range len(a) {
		out[i] = a[i] ^ b[i]
	}
	return out, api.OK
}

// Invert answers each byte's complement.
func Invert(b []byte) []byte {
	out := make([]byte, len(b))
	for i := range len(b) {
		out[i] = ^b[i]
	}
	return out
}

// Fill answers n times x: none, if n is below 0; 65536, if n is above.
func Fill(x byte, n int) []byte {
	size := within(n, maxFill)
	out := make([]byte, size)
	for i := range size {
		out[i] = x
	}
	return out
}

// Same tells whether both are the same bytes. It doesn't stop at the first two that differ: how long it takes must not tell where a tag goes wrong.
func Same(a, b []byte) bool {
	if len(a) != len(b) {
		return false
	}
	var unlike byte
	for i := range len(a) {
		unlike |= a[i] ^ b[i]
	}
	return unlike == 0
}

// Hex answers two digits for each byte, 0 to 9, a to f.
func Hex(b []byte) string {
	out := make([]byte, 0, 2*len(b))
	for _, x := range b {
		out = append(out, digits[x>>4], digits[x&15])
	}
	return string(out)
}

// Unhex answers the bytes that s tells: ErrForm, if its length is odd or it has another sign than Hex writes.
func Unhex(s string) ([]byte, api.Errno) {
	if len(s)%2 != 0 {
		return nil, api.ErrForm
	}
	out := make([]byte, len(s)/2)
	for i := range len(out) {
		high, highOK := digitValue(s[2*i])
		low, lowOK := digitValue(s[2*i+1])
		if !highOK || !lowOK {
			return nil, api.ErrForm
		}
		out[i] = high<<4 | low
	}
	return out, api.OK
}

// digitValue tells what a digit stands for, and whether sign is one.
func digitValue(sign byte) (byte, bool) {
	for value, digit := range digits {
		if digit == sign {
			return byte(value), true
		}
	}
	return 0, false
}

// within answers n, taken as 0 if below and as most if above.
func within(n, most int) int {
	return min(max(n, 0), most)
}
