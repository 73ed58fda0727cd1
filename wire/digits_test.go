package wire

import (
	"fmt"
	"math"
	"strings"
	"testing"

	"tollgate/api"
)

// P106: numbers and bytes as texts.

func TestP106Digits(t *testing.T) {
	for _, c := range []struct {
		v    int
		want string
	}{
		{0, "0"},
		{7, "7"},
		{10, "10"},
		{-50, "-50"},
		{-1, "-1"},
		{math.MaxInt, "9223372036854775807"},
		{math.MinInt, "-9223372036854775808"},
	} {
		if got := Digits(c.v); got != c.want {
			t.Errorf("Digits(%d) = %q, not %q", c.v, got, c.want)
		}
	}
}

func TestP106Number(t *testing.T) {
	for _, c := range []struct {
		s    string
		want int
		err  api.Errno
	}{
		{"0", 0, api.OK},
		{"9", 9, api.OK},
		{"10", 10, api.OK},
		{"4294967296", 1 << 32, api.OK},
		{"1000000000", 1000000000, api.OK},
		{"9999999999", 9999999999, api.OK},
		{"10000000000", 0, api.ErrArg},
		{strings.Repeat("9", 40), 0, api.ErrArg},
		{"", 0, api.ErrArg},
		{"00", 0, api.ErrArg},
		{"01", 0, api.ErrArg},
		{"-1", 0, api.ErrArg},
		{"-0", 0, api.ErrArg},
		{"+1", 0, api.ErrArg},
		{" 1", 0, api.ErrArg},
		{"1 ", 0, api.ErrArg},
		{"1x", 0, api.ErrArg},
		{"x1", 0, api.ErrArg},
		{"1_0", 0, api.ErrArg},
		{"0x1", 0, api.ErrArg},
		{"1.0", 0, api.ErrArg},
		{"/", 0, api.ErrArg},
		{":", 0, api.ErrArg},
		{"1\x00", 0, api.ErrArg},
		{"\xff", 0, api.ErrArg},
		{"\u0661", 0, api.ErrArg}, // a digit of another script
	} {
		if got, err := Number(c.s); got != c.want || err != c.err {
			t.Errorf("Number(%q) = %d, %d, not %d, %d", c.s, got, err, c.want, c.err)
		}
	}
	for v := range 12000 {
		if got, err := Number(Digits(v)); got != v || err != api.OK {
			t.Errorf("Number(Digits(%d)) = %d, %d", v, got, err)
		}
	}
}

func TestP106Hex(t *testing.T) {
	for _, c := range []struct{ b, want string }{
		{"", ""},
		{"\x0f\xa0", "0fa0"},
		{"\x00\x7f\x80\xff", "007f80ff"},
		{"toll", "746f6c6c"},
	} {
		if got := Hex(c.b); got != c.want {
			t.Errorf("Hex(%q) = %q, not %q", c.b, got, c.want)
		}
	}
	for i := range 256 {
		b := string([]byte{byte(i)})
		if got, want := Hex(b), fmt.Sprintf("%02x", i); got != want {
			t.Errorf("Hex(%q) = %q, not %q", b, got, want)
		}
	}
}

func TestP106Unhex(t *testing.T) {
	for _, c := range []struct {
		s, want string
		err     api.Errno
	}{
		{"", "", api.OK},
		{"0fa0", "\x0f\xa0", api.OK},
		{"0123456789abcdef", "\x01\x23\x45\x67\x89\xab\xcd\xef", api.OK},
		{"0", "", api.ErrForm},
		{"0fa", "", api.ErrForm},
		{"00g0", "", api.ErrForm},
		{"000g", "", api.ErrForm},
		{"0A", "", api.ErrForm},
		{"F0", "", api.ErrForm},
		{"0x", "", api.ErrForm},
		{" 00", "", api.ErrForm},
	} {
		if got, err := Unhex(c.s); got != c.want || err != c.err {
			t.Errorf("Unhex(%q) = %q, %d, not %q, %d", c.s, got, err, c.want, c.err)
		}
	}
}

func TestP106EveryPair(t *testing.T) {
	hexes := map[string]string{}
	for i := range 256 {
		hexes[fmt.Sprintf("%02x", i)] = string([]byte{byte(i)})
	}
	for i := range 65536 {
		s := string([]byte{byte(i >> 8), byte(i)})
		want, good := hexes[s]
		got, err := Unhex(s)
		if got != want || (err == api.OK) != good || !good && err != api.ErrForm {
			t.Errorf("Unhex(%q) = %q, %d, not %q", s, got, err, want)
		}
	}
}
