package digest

import (
	"crypto/md5"
	"math"
	"strings"
	"testing"
)

// P202: the answer to a challenge, and whether two texts are alike.

// sum tells the digest of parts one behind the other, by another hand than the package's.
func sum(parts ...string) string {
	d := md5.Sum([]byte(strings.Join(parts, "")))
	return string(d[:])
}

func TestP202Chap(t *testing.T) {
	for _, c := range []struct {
		id                int
		secret, challenge string
		head              string
	}{
		{0, "secret", "challenge", "\x00"},
		{7, "secret", "challenge", "\x07"},
		{127, "secret", "challenge", "\x7f"},
		{128, "secret", "challenge", "\x80"},
		{255, "secret", "challenge", "\xff"},
		{256, "secret", "challenge", "\x00"},
		{263, "secret", "challenge", "\x07"},
		{-1, "secret", "challenge", "\xff"},
		{-256, "secret", "challenge", "\x00"},
		{math.MaxInt, "secret", "challenge", "\xff"},
		{math.MinInt, "secret", "challenge", "\x00"},
		{1, "", "challenge", "\x01"},
		{1, "secret", "", "\x01"},
		{1, "", "", "\x01"},
		{9, "\x00\xff", mixedBytes(300), "\x09"},
		{9, mixedBytes(300), "\x00", "\x09"},
	} {
		if got, want := Chap(c.id, c.secret, c.challenge), sum(c.head, c.secret, c.challenge); got != want {
			t.Errorf("Chap(%d, %q, %q) = %x, not %x", c.id, c.secret, c.challenge, got, want)
		}
	}
}

func TestP202Same(t *testing.T) {
	long := mixedBytes(200)
	for _, c := range []struct {
		a, b string
		want bool
	}{
		{"", "", true},
		{"a", "a", true},
		{"a", "b", false},
		{"", "a", false},
		{"a", "ab", false},
		{"ab", "a", false},
		{"\x00", "", false},
		{"\x00", "\x00", true},
		{"\x01", "\x02", false},
		{"ab", "ba", false},
		{"ab", "aB", false},
		{"\x00\x80", "\x00\x00", false},
		// Two unlike bytes whose differences would cancel out.
		{"\x00\x00", "\x07\x07", false},
		{"\x01\xff", "\x02\xfe", false},
		{long, mixedBytes(200), true},
		{long, long[:199], false},
	} {
		if got := Same(c.a, c.b); got != c.want {
			t.Errorf("Same(%q, %q) = %t", c.a, c.b, got)
		}
	}
}

func TestP202SameLooksAtEachByte(t *testing.T) {
	long := mixedBytes(50)
	for i := range len(long) {
		for bit := range 8 {
			other := []byte(long)
			other[i] ^= 1 << bit
			if Same(long, string(other)) || Same(string(other), long) {
				t.Errorf("Same, though bit %d of byte %d differs", bit, i)
			}
		}
	}
}
