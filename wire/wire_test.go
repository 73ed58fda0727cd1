package wire

import (
	"math"
	"math/bits"
	"strings"
	"testing"

	"tollgate/api"
)

// P101: numbers in one to four bytes, the highest byte first.

func TestP101Put(t *testing.T) {
	for _, c := range []struct {
		v, n int
		want string
		err  api.Errno
	}{
		{0, 1, "\x00", api.OK},
		{255, 1, "\xff", api.OK},
		{256, 1, "", api.ErrArg},
		{258, 2, "\x01\x02", api.OK},
		{65535, 2, "\xff\xff", api.OK},
		{65536, 2, "", api.ErrArg},
		{65536, 3, "\x01\x00\x00", api.OK},
		{1<<24 - 1, 3, "\xff\xff\xff", api.OK},
		{1 << 24, 3, "", api.ErrArg},
		{1 << 24, 4, "\x01\x00\x00\x00", api.OK},
		{0x01020304, 4, "\x01\x02\x03\x04", api.OK},
		{1<<32 - 1, 4, "\xff\xff\xff\xff", api.OK},
		{1 << 32, 4, "", api.ErrArg},
		{7, 4, "\x00\x00\x00\x07", api.OK},
		{-1, 1, "", api.ErrArg},
		{-1, 4, "", api.ErrArg},
		{math.MinInt, 2, "", api.ErrArg},
		{math.MaxInt, 4, "", api.ErrArg},
		{0, 0, "", api.ErrArg},
		{0, 5, "", api.ErrArg},
		{0, -1, "", api.ErrArg},
		{0, math.MinInt, "", api.ErrArg},
		{0, math.MaxInt, "", api.ErrArg},
	} {
		if got, err := Put(c.v, c.n); got != c.want || err != c.err {
			t.Errorf("Put(%d, %d) = %q, %d, not %q, %d", c.v, c.n, got, err, c.want, c.err)
		}
	}
}

func TestP101Get(t *testing.T) {
	for _, c := range []struct {
		b           string
		at, n, want int
		err         api.Errno
	}{
		{"\x01\x02", 0, 2, 258, api.OK},
		{"\x01\x02", 1, 1, 2, api.OK},
		{"\x01\x02\x03\x04\x05", 1, 3, 0x020304, api.OK},
		{"\x01\x02\x03\x04\x05", 1, 4, 0x02030405, api.OK},
		{"\xff\xff\xff\xff", 0, 4, 1<<32 - 1, api.OK},
		{"\x80\x00\x00\x00", 0, 4, 1 << 31, api.OK},
		{"", 1, 1, 0, api.ErrShort},
		{"", 0, 1, 0, api.ErrShort},
		{"abc", 2, 1, 'c', api.OK},
		{"abc", 3, 1, 0, api.ErrShort},
		{"abc", 2, 2, 0, api.ErrShort},
		{"abc", 0, 4, 0, api.ErrShort},
		{"abc", math.MaxInt, 1, 0, api.ErrShort},
		{"abc", math.MaxInt, 4, 0, api.ErrShort},
		{"abc", math.MaxInt - 3, 4, 0, api.ErrShort},
		{"abc", -1, 1, 0, api.ErrArg},
		{"abc", math.MinInt, 4, 0, api.ErrArg},
		{"", -1, 1, 0, api.ErrArg},
		{"abc", 0, 0, 0, api.ErrArg},
		{"abcde", 0, 5, 0, api.ErrArg},
		{"abc", 0, -1, 0, api.ErrArg},
		{"abc", 0, math.MinInt, 0, api.ErrArg},
		{"", math.MaxInt, math.MaxInt, 0, api.ErrArg},
	} {
		if got, err := Get(c.b, c.at, c.n); got != c.want || err != c.err {
			t.Errorf("Get(%q, %d, %d) = %d, %d, not %d, %d", c.b, c.at, c.n, got, err, c.want, c.err)
		}
	}
}

// P102: the check sum, and bytes sealed with it.

// divided tells the check sum by a long division, its bits not turned round: another way than Fcs.
func divided(b string) int {
	x := uint16(65535)
	for i := range len(b) {
		x ^= uint16(bits.Reverse8(b[i])) << 8
		for range 8 {
			high := x >> 15
			x = x<<1 ^ high*0x1021
		}
	}
	return int(^bits.Reverse16(x))
}

func TestP102Fcs(t *testing.T) {
	for _, c := range []struct {
		b    string
		want int
	}{
		{"", 0},
		{"123456789", 36974},
	} {
		if got := Fcs(c.b); got != c.want {
			t.Errorf("Fcs(%q) = %d, not %d", c.b, got, c.want)
		}
	}
	for i := range 256 {
		b := string([]byte{byte(i), byte(255 - i), byte(i * 7), 0, byte(i)})
		for n := range len(b) + 1 {
			if got, want := Fcs(b[:n]), divided(b[:n]); got != want {
				t.Errorf("Fcs(%q) = %d, not %d", b[:n], got, want)
			}
		}
	}
	if long := strings.Repeat("\x00\xff\x5a", 5000); Fcs(long) != divided(long) {
		t.Errorf("Fcs of %d bytes = %d, not %d", len(long), Fcs(long), divided(long))
	}
}

func TestP102Seal(t *testing.T) {
	for _, c := range []struct{ b, want string }{
		{"", "\x00\x00"},
		{"123456789", "123456789\x6e\x90"},
	} {
		if got := Seal(c.b); got != c.want {
			t.Errorf("Seal(%q) = %q, not %q", c.b, got, c.want)
		}
	}
}

func TestP102Unseal(t *testing.T) {
	for _, c := range []struct {
		b, want string
		err     api.Errno
	}{
		{"", "", api.ErrShort},
		{"\x00", "", api.ErrShort},
		{"\x00\x00", "", api.OK},
		{"\x00\x01", "", api.ErrSum},
		{"\x01\x00", "", api.ErrSum},
		{"123456789\x6e\x90", "123456789", api.OK},
		{"123456789\x90\x6e", "", api.ErrSum},
		{"12345678\x6e\x90", "", api.ErrSum},
		{"123456789\x6e", "", api.ErrSum},
	} {
		if got, err := Unseal(c.b); got != c.want || err != c.err {
			t.Errorf("Unseal(%q) = %q, %d, not %q, %d", c.b, got, err, c.want, c.err)
		}
	}
	long := strings.Repeat("long", 10000)
	if got, err := Unseal(Seal(long)); got != long || err != api.OK {
		t.Errorf("Unseal of %d sealed bytes: %d bytes, %d", len(long), len(got), err)
	}
}

// P107: what follows from these.

func TestP107GetOfPut(t *testing.T) {
	for n := 1; n <= 4; n++ {
		most := 1<<(8*n) - 1
		for _, v := range []int{0, 1, 127, 128, 254, 255, most / 3, most / 2, most - 1, most} {
			b, err := Put(v, n)
			if err != api.OK || len(b) != n {
				t.Errorf("Put(%d, %d) = %q, %d", v, n, b, err)
			}
			for _, at := range []int{0, 1, 9} {
				if got, err := Get(strings.Repeat("\xa5", at)+b+"\x5a", at, n); got != v || err != api.OK {
					t.Errorf("Get of Put(%d, %d) at %d = %d, %d", v, n, at, got, err)
				}
			}
		}
	}
}

func TestP107OneByteChanged(t *testing.T) {
	for _, b := range []string{"", "\x00", "\xff\xff", "tollgate", strings.Repeat("\x00", 40)} {
		whole := Seal(b)
		for at := range len(whole) {
			for turn := 1; turn < 256; turn++ {
				spoilt := []byte(whole)
				spoilt[at] ^= byte(turn)
				if got, err := Unseal(string(spoilt)); got != "" || err != api.ErrSum {
					t.Fatalf("Unseal(%q), sealed %q = %q, %d", spoilt, whole, got, err)
				}
			}
		}
		if got, err := Unseal(whole); got != b || err != api.OK {
			t.Errorf("Unseal(Seal(%q)) = %q, %d", b, got, err)
		}
	}
}
