// Package wire lays numbers and frames into bytes.
package wire

import (
	"strings"

	"tollgate/api"
)

const (
	mostBytes = 4     // a number's room
	mostWord  = 65535 // what two bytes hold
	sumTurn   = 33800 // the check sum's polynomial, its bits turned round
)

// Put tells a number as so many bytes.
func Put(v, n int) (string, api.Errno) {
	if n < 1 || n > mostBytes || v < 0 || v>>(8*n) != 0 {
		return "", api.ErrArg
	}
	return string(lay(nil, v, n)), api.OK
}

// Get tells the number at a place.
func Get(b string, at, n int) (int, api.Errno) {
	if n < 1 || n > mostBytes || at < 0 {
		return 0, api.ErrArg
	}
	// Not at+n > len(b): that sum wraps round where at is near the greatest int.
	if at > len(b)-n {
		return 0, api.ErrShort
	}
	return lift(b[at : at+n]), api.OK
}

// Fcs tells the check sum of some bytes.
func Fcs(b string) int {
	x := mostWord
	for i := range len(b) {
		x ^= int(b[i])
		for range 8 {
			odd := x&1 == 1
			x >>= 1
			if odd {
				x ^= sumTurn
			}
		}
	}
	return mostWord - x
}

// Seal puts the check sum behind some bytes.
func Seal(b string) string {
	sum := Fcs(b)
	return b + string([]byte{byte(sum), byte(sum >> 8)})
}

// Unseal takes it away.
func Unseal(b string) (string, api.Errno) {
	n := len(b) - 2
	if n < 0 {
		return "", api.ErrShort
	}
	if int(b[n])|int(b[n+1])<<8 != Fcs(b[:n]) {
		return "", api.ErrSum
	}
	return strings.Clone(b[:n]), api.OK
}

// lay puts the lowest n bytes of v behind b, the highest first.
func lay(b []byte, v, n int) []byte {
	for shift := 8 * (n - 1); shift >= 0; shift -= 8 {
		b = append(b, byte(v>>shift))
	}
	return b
}

// lift tells the number whose bytes are all of b; the caller sees to it that they are few.
func lift(b string) int {
	v := 0
	for i := range len(b) {
		v = v<<8 | int(b[i])
	}
	return v
}

// isWord tells whether two bytes hold v.
func isWord(v int) bool { return v >= 0 && v <= mostWord }
