// Package codec: numbers and texts as bytes.
package codec

import "sculling/api"

const (
	numberBytes = 4
	maxText     = 255 // a text's length stands in one byte
	sealPrime   = 65521
)

// Number as four bytes, the highest one first.
func Number(n int) (string, api.Errno) {
	if n < 0 || n > api.MaxGen {
		return "", api.ErrRange
	}
	return pair(n>>16) + pair(n), api.OK
}

// Text behind its length, a byte.
func Text(s string) (string, api.Errno) {
	if len(s) > maxText {
		return "", api.ErrSize
	}
	// A conversion of the number itself to a string would make a rune of it: two bytes from 128 on.
	return string([]byte{byte(len(s))}) + s, api.OK
}

// ReadNumber from the front of bytes; and what is left.
func ReadNumber(s string) (int, string, api.Errno) {
	if len(s) < numberBytes {
		return 0, "", api.ErrShort
	}
	n := 0
	for i := range numberBytes {
		n = n<<8 | int(s[i])
	}
	if n > api.MaxGen {
		return 0, "", api.ErrForm
	}
	return n, s[numberBytes:], api.OK
}

// ReadText from the front of bytes; and what is left.
func ReadText(s string) (string, string, api.Errno) {
	if s == "" {
		return "", "", api.ErrShort
	}
	size, rest := int(s[0]), s[1:]
	if len(rest) < size {
		return "", "", api.ErrShort
	}
	return rest[:size], rest[size:], api.OK
}

// Seal of bytes: four of them.
func Seal(s string) string {
	first, second := 1, 0
	for i := range len(s) { // by bytes: a range over the string itself would go by runes
		first = (first + int(s[i])) % sealPrime
		second = (second + first) % sealPrime
	}
	return pair(second) + pair(first)
}

// pair: the lowest two bytes of a number, the higher one first.
func pair(n int) string {
	return string([]byte{byte(n >> 8), byte(n)})
}
