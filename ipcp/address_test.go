package ipcp

import (
	"math"
	"slices"
	"testing"

	"tollgate/api"
)

// P1702: Address and Good.

func TestP1702Address(t *testing.T) {
	for _, x := range []struct {
		what string
		l    []api.Option
		kind int
		want string // empty: there is none
	}{
		{"no options", nil, 3, ""},
		{"an empty list", []api.Option{}, 3, ""},
		{"no options, a kind of 0", nil, 0, ""},
		{"one", list(3, peer), 3, peer},
		{"of noughts", list(3, nought), 3, nought},
		{"the least", list(3, one), 3, one},
		{"the greatest", list(3, top), 3, top},
		{"another Type", list(4, peer), 3, ""},
		{"another kind", list(3, peer), 129, ""},
		{"a kind like it in its low byte", list(3, peer), 256 + 3, ""},
		{"a Type like it in its low byte", list(256+3, peer), 3, ""},
		{"a kind below 0", list(3, peer), -3, ""},
		{"the first name server", list(3, peer, 129, first, 131, second), 129, first},
		{"the second name server", list(3, peer, 129, first, 131, second), 131, second},
		{"the kind between them", list(3, peer, 129, first, 131, second), 130, ""},
		{"the address, at the end", list(131, second, 129, first, 3, peer), 3, peer},
		{"the first of several", list(3, peer, 3, own, 3, top), 3, peer},
		{"the first of several, of noughts", list(9, "", 3, nought, 3, own), 3, nought},
		{"no bytes", list(3, ""), 3, ""},
		{"1 byte", list(3, "\x0a"), 3, ""},
		{"3 bytes", list(3, "\x0a\x14\x1e"), 3, ""},
		{"5 bytes", list(3, peer+"\x00"), 3, ""},
		{"8 bytes", list(3, peer+peer), 3, ""},
		{"no bytes, and 4 behind", list(3, "", 3, peer), 3, ""},
		{"3 bytes, and 4 behind", list(3, "\x0a\x14\x1e", 3, peer), 3, ""},
		{"5 bytes, and 4 behind", list(3, peer+"\x00", 3, peer), 3, ""},
		{"4 bytes, and 5 behind", list(3, peer, 3, peer+"\x00"), 3, peer},
		{"wrong ones of other Types ahead", list(129, "", 131, "abc", 3, peer), 3, peer},
		{"a Type of 0", list(0, peer), 0, peer},
		{"a Type below 0", list(-7, peer), -7, peer},
	} {
		kept := slices.Clone(x.l)
		a, ok := Address(x.l, x.kind)
		want := api.Addr{}
		if x.want != "" {
			want = addr(x.want)
		}
		if a != want || ok != (x.want != "") {
			t.Errorf("%s: Address = %v, %t, not %v", x.what, a, ok, want)
		}
		if !slices.Equal(x.l, kept) {
			t.Errorf("%s: the list was changed: %v", x.what, x.l)
		}
	}
}

// Every kind finds its own option, wherever it stands, and no other one.
func TestP1702AddressOfEveryKind(t *testing.T) {
	var all []api.Option
	for kind := range 256 {
		all = append(all, opt(kind, string([]byte{byte(kind), byte(255 - kind), byte(kind * 7), byte(kind + 100)})))
	}
	for kind := range 256 {
		want := api.Addr{byte(kind), byte(255 - kind), byte(kind * 7), byte(kind + 100)}
		if a, ok := Address(all, kind); a != want || !ok {
			t.Errorf("Address of %d = %v, %t", kind, a, ok)
		}
		without := slices.Delete(slices.Clone(all), kind, kind+1)
		if a, ok := Address(without, kind); a != (api.Addr{}) || ok {
			t.Errorf("Address of %d, which is not there = %v, %t", kind, a, ok)
		}
	}
	for _, kind := range []int{-1, -3, -129, 256, 259, 512 + 129, 1<<32 + 3, 1<<62 + 131, math.MinInt, math.MinInt + 3, math.MaxInt} {
		if a, ok := Address(all, kind); a != (api.Addr{}) || ok {
			t.Errorf("Address of %d = %v, %t", kind, a, ok)
		}
		if a, ok := Address(append(slices.Clone(all), opt(kind, peer)), kind); a != addr(peer) || !ok {
			t.Errorf("Address of %d, which is there = %v, %t", kind, a, ok)
		}
	}
}

// Every value of every byte comes to its place.
func TestP1702AddressOfEveryByte(t *testing.T) {
	for place := range 4 {
		for v := range 256 {
			want := addr(peer)
			want[place] = byte(v)
			if a, ok := Address(list(3, string(want[:])), 3); a != want || !ok {
				t.Errorf("Address of %v = %v, %t", want, a, ok)
			}
		}
	}
	for n := range 300 {
		a, ok := Address(list(3, string(make([]byte, n))), 3)
		if a != (api.Addr{}) || ok != (n == 4) {
			t.Errorf("Address of %d bytes = %v, %t", n, a, ok)
		}
	}
}

func TestP1702Good(t *testing.T) {
	for _, a := range edges() {
		for _, b := range edges() {
			if got := Good(addr(a), addr(b)); got != (a == b && a != nought) {
				t.Errorf("Good(%q, %q) = %t", a, b, got)
			}
		}
	}
}

// Each bit of each byte counts, in both of them.
func TestP1702GoodOfEveryBit(t *testing.T) {
	for _, s := range edges() {
		for place := range 4 {
			for bit := range 8 {
				a, b := addr(s), addr(s)
				b[place] ^= 1 << bit
				if Good(a, b) || Good(b, a) {
					t.Errorf("%v and %v are taken for one", a, b)
				}
				if Good(b, b) != (b != api.Addr{}) {
					t.Errorf("Good(%v, %v) = %t", b, b, Good(b, b))
				}
			}
		}
	}
}
