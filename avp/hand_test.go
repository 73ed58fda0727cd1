package avp

import (
	"crypto/md5"
	"slices"
	"strings"
	"testing"

	"tollgate/api"
	"tollgate/byhand"
)

// What the tests of this package lay by another way than the program's, and hold answers by.

const mostRoom = 1488 // MaxData - 12, written out so that a slip in the constant shows

// some tells n bytes, no two neighbours alike.
func some(n int) string {
	b := make([]byte, n)
	for i := range b {
		b[i] = byte(i*7 + 3)
	}
	return string(b)
}

// bare tells n values without a Value.
func bare(n int) []api.Avp { return slices.Repeat([]api.Avp{{Type: 1}}, n) }

// bares tells their bytes.
func bares(n int) string { return strings.Repeat("\x00\x06\x00\x00\x00\x01", n) }

// vector tells a value by which those behind it may be hidden.
func vector(value string) api.Avp { return api.Avp{Must: true, Type: 36, Value: value} }

// hidden tells a value that is to be hidden.
func hidden(kind int, value string) api.Avp { return api.Avp{Hidden: true, Type: kind, Value: value} }

// openly tells the bytes of vector.
func openly(value string) string { return byhand.Value(32768, 0, 36, value) }

// masked does what RFC 2661 does to a hidden value, by the library's MD5, byte by byte.
func masked(kind int, secret, vector, value string) string {
	out := ""
	for i := range len(value) {
		key := md5.Sum([]byte(secret + out[max(0, i-i%16-16):i-i%16]))
		if i < 16 {
			key = md5.Sum([]byte(byhand.Word(kind) + secret + vector))
		}
		out += string([]byte{value[i] ^ key[i%16]})
	}
	return out
}

// covered tells the bytes of a hidden value, whatever it has instead of its length and its Value.
func covered(kind int, secret, vector, shown string) string {
	return byhand.Value(16384, 0, kind, masked(kind, secret, vector, shown))
}

// whole tells a Value with its length ahead.
func whole(value string) string { return byhand.Word(len(value)) + value }

// holdPut holds an answer of Put.
func holdPut(t *testing.T, what string, l []api.Avp, secret, want string, werr api.Errno) {
	t.Helper()
	if got, err := Put(l, secret); got != want || err != werr {
		t.Errorf("Put of %s = %.60x (%d bytes), %d, not %.60x (%d bytes), %d", what, got, len(got), err, want, len(want), werr)
	}
}

// holdGet holds an answer of Get; beside an error there is none.
func holdGet(t *testing.T, what, b, secret string, want []api.Avp, werr api.Errno) {
	t.Helper()
	if got, err := Get(b, secret); !slices.Equal(got, want) || err != werr {
		t.Errorf("Get of %s = %.90v, %d, not %.90v, %d", what, got, err, want, werr)
	}
}
