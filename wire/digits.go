package wire

import (
	"strconv"

	"tollgate/api"
)

const (
	mostDigits = 10
	hexDigits  = "0123456789abcdef"
)

// Digits tells an int in digits.
func Digits(v int) string { return strconv.Itoa(v) }

// Number tells the int of digits.
func Number(s string) (int, api.Errno) {
	if len(s) < 1 || len(s) > mostDigits || s[0] == '0' && len(s) > 1 {
		return 0, api.ErrArg
	}
	v := 0
	for i := range len(s) {
		if s[i] < '0' || s[i] > '9' {
			return 0, api.ErrArg
		}
		v = 10*v + int(s[i]-'0')
	}
	return v, api.OK
}

// Hex tells bytes in digits of four bits.
func Hex(b string) string {
	s := make([]byte, 0, 2*len(b))
	for i := range len(b) {
		s = append(s, hexDigits[b[i]>>4], hexDigits[b[i]&15])
	}
	return string(s)
}

// Unhex tells the bytes of such digits.
func Unhex(s string) (string, api.Errno) {
	if len(s)%2 != 0 {
		return "", api.ErrForm
	}
	b := make([]byte, 0, len(s)/2)
	for i := 0; i < len(s); i += 2 {
		high, ok := nibble(s[i])
		low, too := nibble(s[i+1])
		if !ok || !too {
			return "", api.ErrForm
		}
		b = append(b, high<<4|low)
	}
	return string(b), api.OK
}

// nibble tells the four bits of a digit, and whether it is one.
func nibble(c byte) (byte, bool) {
	switch {
	case c >= '0' && c <= '9':
		return c - '0', true
	case c >= 'a' && c <= 'f':
		return c - 'a' + 10, true
	}
	return 0, false
}
