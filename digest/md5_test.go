package digest

import (
	"crypto/md5"
	"encoding/hex"
	"math"
	"math/bits"
	"strings"
	"testing"
)

// P201: the digest of RFC 1321, its bytes, and the turn that its steps are made of.

// mixedBytes tells n bytes, of which neighbours and blocks are unlike.
func mixedBytes(n int) string {
	b := make([]byte, n)
	for i := range b {
		b[i] = byte(i*7 + i/64*13 + 200)
	}
	return string(b)
}

func TestP201Md5OfTheRfc(t *testing.T) {
	for _, c := range []struct{ b, want string }{
		{"", "d41d8cd98f00b204e9800998ecf8427e"},
		{"a", "0cc175b9c0f1b6a831c399e269772661"},
		{"abc", "900150983cd24fb0d6963f7d28e17f72"},
		{"message digest", "f96b697d7cb7938d525a2f31aaf161d0"},
		{"abcdefghijklmnopqrstuvwxyz", "c3fcd3d76192e4007dfb496cca67e13b"},
		{"ABCDEFGHIJKLMNOPQRSTUVWXYZabcdefghijklmnopqrstuvwxyz0123456789", "d174ab98d277d9f5a5611c2c9f419d9f"},
		{strings.Repeat("1234567890", 8), "57edf4a22be3c955ac49da2e2107b67a"},
	} {
		d := Md5(c.b)
		if got := hex.EncodeToString(d[:]); got != c.want {
			t.Errorf("Md5(%q) = %s, not %s", c.b, got, c.want)
		}
	}
}

func TestP201Md5OfEachLength(t *testing.T) {
	// Three blocks, so that each place of the padding comes behind none, one and two whole ones.
	for n := range 3*64 + 2 {
		b := mixedBytes(n)
		if got, want := Md5(b), md5.Sum([]byte(b)); got != want {
			t.Errorf("Md5 of %d bytes = %x, not %x", n, got, want)
		}
	}
}

func TestP201Md5OfBytesOfOneKind(t *testing.T) {
	for _, one := range []string{"\x00", "\x80", "\xff", "\xc3\xa4"} {
		for _, n := range []int{1, 27, 28, 32, 55, 56, 57, 63, 64, 65, 119, 120, 128} {
			b := strings.Repeat(one, n)
			if got, want := Md5(b), md5.Sum([]byte(b)); got != want {
				t.Errorf("Md5 of %d times %q = %x, not %x", n, one, got, want)
			}
		}
	}
}

func TestP201Md5OfManyBytes(t *testing.T) {
	// The numbers of bits need a second, a third and a fourth byte of the length.
	for _, n := range []int{1 << 5, 1<<13 - 1, 1 << 13, 1<<21 + 3, 1 << 22} {
		b := mixedBytes(n)
		if got, want := Md5(b), md5.Sum([]byte(b)); got != want {
			t.Errorf("Md5 of %d bytes = %x, not %x", n, got, want)
		}
	}
}

func TestP201Md5AgainIsTheSame(t *testing.T) {
	first := Md5("abc")
	Md5(mixedBytes(100))
	if again := Md5("abc"); again != first {
		t.Errorf("Md5 again = %x, not %x", again, first)
	}
}

func TestP201Text(t *testing.T) {
	d := [16]byte{0, 1, 2, 3, 127, 128, 129, 0xc3, 0xa4, 9, 10, 11, 12, 13, 254, 255}
	text := Text(d)
	if want := "\x00\x01\x02\x03\x7f\x80\x81\xc3\xa4\x09\x0a\x0b\x0c\x0d\xfe\xff"; text != want {
		t.Errorf("Text = %q, not %q", text, want)
	}
	if got := Text([16]byte{}); got != strings.Repeat("\x00", 16) {
		t.Errorf("Text of zeros = %q", got)
	}
	abc := Md5("abc")
	if got := hex.EncodeToString([]byte(Text(abc))); got != "900150983cd24fb0d6963f7d28e17f72" {
		t.Errorf("Text of Md5 = %s", got)
	}
}

func TestP201Rotate(t *testing.T) {
	for _, c := range []struct {
		x    uint32
		n    int
		want uint32
	}{
		{0x80000001, 4, 0x00000018},
		{1, -1, 0x80000000},
		{0x12345678, 0, 0x12345678},
		{0x12345678, 8, 0x34567812},
		{0x12345678, -8, 0x78123456},
		{0x12345678, 31, 0x091a2b3c},
		{0x12345678, 32, 0x12345678},
		{0x12345678, -32, 0x12345678},
		{1, 31, 0x80000000},
		{1, 33, 2},
		{1, -31, 2},
		{1, -33, 0x80000000},
		{1, math.MinInt, 1},
		{1, math.MinInt + 1, 2},
		{1, math.MaxInt, 0x80000000},
		{0, 5, 0},
		{0xffffffff, 17, 0xffffffff},
	} {
		if got := Rotate(c.x, c.n); got != c.want {
			t.Errorf("Rotate(%#x, %d) = %#x, not %#x", c.x, c.n, got, c.want)
		}
	}
	for n := -100; n <= 100; n++ {
		if got, want := Rotate(0xdeadbeef, n), bits.RotateLeft32(0xdeadbeef, n%32); got != want {
			t.Errorf("Rotate(0xdeadbeef, %d) = %#x, not %#x", n, got, want)
		}
	}
}
