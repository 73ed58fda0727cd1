package pool

import (
	"strconv"
	"strings"

	"tollgate/api"
)

// Add tells the address so much further.
func Add(a api.Addr, n int) api.Addr {
	return address(number(a) + uint32(n)) // the cut and the sum both wrap as the promise does
}

// Text tells an address as a text.
func Text(a api.Addr) string {
	var parts [len(a)]string
	for i, b := range a {
		parts[i] = strconv.Itoa(int(b))
	}
	return strings.Join(parts[:], ".")
}

// number tells an address as a number.
func number(a api.Addr) uint32 {
	return uint32(a[0])<<24 | uint32(a[1])<<16 | uint32(a[2])<<8 | uint32(a[3])
}

// address tells a number as an address.
func address(v uint32) api.Addr {
	return api.Addr{byte(v >> 24), byte(v >> 16), byte(v >> 8), byte(v)}
}
