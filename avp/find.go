package avp

import (
	"slices"
	"strings"

	"tollgate/api"
)

const (
	mostPut = 8 // bytes of an int
	mostGot = 7 // bytes whose number is an int, and not below 0
)

// Same tells whether values are the same.
func Same(a, b []api.Avp) bool { return slices.Equal(a, b) }

// Num makes a value of a number.
func Num(kind, v, n int) api.Avp {
	a := api.Avp{Must: true, Type: kind}
	if n < 1 || n > mostPut {
		return a
	}
	b := make([]byte, 0, n)
	for shift := 8 * (n - 1); shift >= 0; shift -= 8 {
		b = append(b, byte(v>>shift)) // the conversion cuts off what is above the byte
	}
	a.Value = string(b)
	return a
}

// Find tells the first value of a type.
func Find(l []api.Avp, kind int) (string, bool) {
	for _, a := range l {
		if a.Vendor == 0 && a.Type == kind {
			return strings.Clone(a.Value), true
		}
	}
	return "", false
}

// Number tells its number.
func Number(l []api.Avp, kind int) (int, bool) {
	value, found := Find(l, kind)
	if !found || value == "" || len(value) > mostGot {
		return 0, false
	}
	v := 0
	for i := range len(value) {
		v = v<<8 | int(value[i])
	}
	return v, true
}
