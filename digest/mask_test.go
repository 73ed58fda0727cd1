package digest

import (
	"math"
	"testing"
)

// P203 and P204: values hidden and shown again.

// xor tells a exclusive or the first bytes of b.
func xor(a, b string) string {
	out := []byte(a)
	for i := range out {
		out[i] ^= b[i]
	}
	return string(out)
}

func TestP203MaskByPieces(t *testing.T) {
	value := mixedBytes(50)
	one := xor(value[:16], sum("\x00\x07", "secret", "vector"))
	two := xor(value[16:32], sum("secret", one))
	three := xor(value[32:48], sum("secret", two))
	four := xor(value[48:], sum("secret", three))
	whole := one + two + three + four
	for _, n := range []int{0, 1, 2, 15, 16, 17, 31, 32, 33, 47, 48, 49, 50} {
		if got := Mask(7, "secret", "vector", value[:n]); got != whole[:n] {
			t.Errorf("Mask of %d bytes = %x, not %x", n, got, whole[:n])
		}
	}
}

func TestP203UnmaskByPieces(t *testing.T) {
	value := mixedBytes(50)
	one := xor(value[:16], sum("\x00\x07", "secret", "vector"))
	two := xor(value[16:32], sum("secret", value[:16]))
	three := xor(value[32:48], sum("secret", value[16:32]))
	four := xor(value[48:], sum("secret", value[32:48]))
	whole := one + two + three + four
	for _, n := range []int{0, 1, 2, 15, 16, 17, 31, 32, 33, 47, 48, 49, 50} {
		if got := Unmask(7, "secret", "vector", value[:n]); got != whole[:n] {
			t.Errorf("Unmask of %d bytes = %x, not %x", n, got, whole[:n])
		}
	}
}

func TestP203KindInTwoBytes(t *testing.T) {
	for _, c := range []struct {
		kind int
		head string
	}{
		{0, "\x00\x00"},
		{1, "\x00\x01"},
		{255, "\x00\xff"},
		{256, "\x01\x00"},
		{0x1234, "\x12\x34"},
		{65535, "\xff\xff"},
		{65536, "\x00\x00"},
		{65543, "\x00\x07"},
		{-1, "\xff\xff"},
		{-2, "\xff\xfe"},
		{-65536, "\x00\x00"},
		{math.MaxInt, "\xff\xff"},
		{math.MinInt, "\x00\x00"},
	} {
		want := xor("value", sum(c.head, "s", "v"))
		if got := Mask(c.kind, "s", "v", "value"); got != want {
			t.Errorf("Mask of kind %d = %x, not %x", c.kind, got, want)
		}
		if got := Unmask(c.kind, "s", "v", "value"); got != want {
			t.Errorf("Unmask of kind %d = %x, not %x", c.kind, got, want)
		}
	}
}

func TestP203EmptyAndLongParts(t *testing.T) {
	long := mixedBytes(300)
	for _, c := range []struct{ secret, vector string }{
		{"", ""}, {"s", ""}, {"", "v"}, {long, "v"}, {"s", long}, {"\x00", "\xff"},
	} {
		value := mixedBytes(20)
		one := xor(value[:16], sum("\x00\x01", c.secret, c.vector))
		want := one + xor(value[16:], sum(c.secret, one))
		if got := Mask(1, c.secret, c.vector, value); got != want {
			t.Errorf("Mask(1, %q, %q, ..) = %x, not %x", c.secret, c.vector, got, want)
		}
		if got := Mask(1, c.secret, c.vector, ""); got != "" {
			t.Errorf("Mask(1, %q, %q, nothing) = %x", c.secret, c.vector, got)
		}
		if got := Unmask(1, c.secret, c.vector, ""); got != "" {
			t.Errorf("Unmask(1, %q, %q, nothing) = %x", c.secret, c.vector, got)
		}
	}
}

func TestP204UnmaskOfMask(t *testing.T) {
	for n := range 70 {
		for _, kind := range []int{0, 9, 65535, -3} {
			value := mixedBytes(n)
			hidden := Mask(kind, "secret", "vector", value)
			if len(hidden) != n {
				t.Errorf("Mask of %d bytes has %d", n, len(hidden))
			}
			shown := Unmask(kind, "secret", "vector", hidden)
			if shown != value || len(shown) != n {
				t.Errorf("Unmask of Mask of %x = %x", value, shown)
			}
			if back := Mask(kind, "secret", "vector", Unmask(kind, "secret", "vector", value)); back != value {
				t.Errorf("Mask of Unmask of %x = %x", value, back)
			}
		}
	}
}

func TestP204AnotherKeyDoesNotShowIt(t *testing.T) {
	value := mixedBytes(40)
	hidden := Mask(7, "secret", "vector", value)
	for _, shown := range []string{
		Unmask(8, "secret", "vector", hidden),
		Unmask(7, "Secret", "vector", hidden),
		Unmask(7, "secret", "Vector", hidden),
	} {
		if shown == value {
			t.Errorf("shown by another key: %x", shown)
		}
		if len(shown) != len(value) {
			t.Errorf("shown by another key: %d bytes", len(shown))
		}
	}
	// A value of one piece is not chained: there hiding is its own inverse.
	if got := Mask(7, "secret", "vector", hidden[:16]); got != value[:16] {
		t.Errorf("Mask of Mask of a piece = %x, not %x", got, value[:16])
	}
	if got := Mask(7, "secret", "vector", hidden); got == value {
		t.Errorf("Mask of Mask of three pieces is the value")
	}
}
