package msg

import (
	"math"
	"slices"
	"testing"

	"tollgate/api"
	"tollgate/byhand"
)

// P1903.

func TestP1903Kind(t *testing.T) {
	six, five := num(0, 6), num(0, 5)
	for _, x := range []struct {
		what string
		l    []api.Avp
		want int
	}{
		{"nil", nil, -2},
		{"no values", []api.Avp{}, -2},
		{"a kind", []api.Avp{six}, 6},
		{"one that is not Must", []api.Avp{{Value: "\x00\x06"}}, 6},
		{"the first one counts", []api.Avp{six, five}, 6},
		{"others behind it", []api.Avp{six, {Vendor: 3}, {Type: 7, Value: "x"}}, 6},
		{"of another Vendor", []api.Avp{{Must: true, Vendor: 1, Value: "\x00\x06"}}, -1},
		{"of the greatest Vendor", []api.Avp{{Must: true, Vendor: 65535, Value: "\x00\x06"}}, -1},
		{"of a Vendor that is none", []api.Avp{{Must: true, Vendor: 65536, Value: "\x00\x06"}}, -1},
		{"of a Vendor below 0", []api.Avp{{Must: true, Vendor: -1, Value: "\x00\x06"}}, -1},
		{"of another Type", []api.Avp{num(1, 6)}, -1},
		{"of the greatest Type", []api.Avp{num(65535, 6)}, -1},
		{"of a Type that is none", []api.Avp{num(65536, 6)}, -1},
		{"of a Type below 0", []api.Avp{num(-1, 6)}, -1},
		{"hidden", []api.Avp{{Hidden: true, Value: "\x00\x06"}}, -1},
		{"hidden and Must", []api.Avp{{Must: true, Hidden: true, Value: "\x00\x06"}}, -1},
		{"of no bytes", []api.Avp{{Must: true}}, -1},
		{"of one byte", []api.Avp{{Must: true, Value: "\x06"}}, -1},
		{"of three bytes", []api.Avp{{Must: true, Value: "\x00\x00\x06"}}, -1},
		{"of three bytes, the last one too many", []api.Avp{{Must: true, Value: "\x00\x06\x00"}}, -1},
		{"of many bytes", []api.Avp{{Must: true, Value: some(1000)}}, -1},
		{"the second one does not count", []api.Avp{{Type: 7, Value: "x"}, six}, -1},
		{"the second one does not count, the first is of a Vendor", []api.Avp{{Vendor: 1, Value: "\x00\x05"}, six}, -1},
	} {
		if got := Kind(of(x.l...)); got != x.want {
			t.Errorf("Kind of %s = %d, not %d", x.what, got, x.want)
		}
		if got := Kind(api.Ctl{Tunnel: 14, Session: 14, Ns: 14, Nr: 14, Avps: x.l}); got != x.want {
			t.Errorf("Kind of %s, numbered = %d, not %d", x.what, got, x.want)
		}
	}
}

func TestP1903KindOfAll(t *testing.T) {
	for v := range 65536 { // any number, whether there is such a kind or not
		if got := Kind(of(api.Avp{Value: byhand.Word(v)})); got != v {
			t.Fatalf("Kind of %d = %d", v, got)
		}
	}
}

// needed tells what messages must have, by the numbers that the document writes.
func needed() map[int][]int {
	return map[int][]int{
		1:  {2, 3, 7, 9},
		2:  {2, 3, 7, 9},
		3:  {},
		4:  {9, 1},
		6:  {},
		7:  {14, 15},
		8:  {14},
		9:  {24, 19},
		10: {14, 15},
		11: {14},
		12: {24, 19},
		14: {1, 14},
		15: {34},
		16: {35},
	}
}

func TestP1903Needs(t *testing.T) {
	all := needed()
	for kind := -300; kind < 70000; kind++ {
		if got := Needs(kind); !slices.Equal(got, all[kind]) {
			t.Errorf("Needs(%d) = %v, not %v", kind, got, all[kind])
		}
	}
	for _, kind := range []int{math.MinInt, math.MinInt + 1, -65535, -65526, 1<<32 + 1, 1<<62 + 14, math.MaxInt} {
		if got := Needs(kind); len(got) != 0 {
			t.Errorf("Needs(%d) = %v", kind, got)
		}
	}
}

func TestP1903NeedsAreNew(t *testing.T) {
	for kind, want := range needed() {
		for range 3 {
			got := Needs(kind)
			if !slices.Equal(got, want) {
				t.Errorf("Needs(%d) = %v, not %v", kind, got, want)
			}
			got = got[:cap(got)]
			for i := range got {
				got[i] = -9
			}
		}
	}
}

func TestP1903Make(t *testing.T) {
	x, y := api.Avp{Type: 7, Value: "x"}, api.Avp{Must: true, Hidden: true, Vendor: -1, Type: 70000, Value: some(2000)}
	for _, kind := range []int{0, 1, 5, 6, 14, 16, 255, 256, 65535} {
		for _, l := range [][]api.Avp{nil, {}, {x}, {x, y}, {num(0, 9), x}, slices.Repeat([]api.Avp{x}, 100)} {
			want := append([]api.Avp{num(0, kind)}, l...)
			if got := Make(kind, l...); !slices.Equal(got, want) {
				t.Errorf("Make(%d, %v) = %v", kind, l, got)
			}
		}
		if got := Kind(of(Make(kind, x, y)...)); got != kind {
			t.Errorf("Kind of Make(%d) = %d", kind, got)
		}
	}
	if got := Make(6); !slices.Equal(got, []api.Avp{num(0, 6)}) {
		t.Errorf("Make(6) = %v", got)
	}
	if got := Make(6, x, y); !slices.Equal(got, []api.Avp{num(0, 6), x, y}) {
		t.Errorf("Make(6, x, y) = %v", got)
	}
}

// TestP1903MakeWraps has kinds that two bytes do not hold: their lowest 16 bits stand there.
func TestP1903MakeWraps(t *testing.T) {
	for kind, low := range map[int]int{-1: 65535, -65536: 0, 65536: 0, 65542: 6, -65530: 6, math.MinInt: 0, math.MaxInt: 65535} {
		if got := Make(kind); !slices.Equal(got, []api.Avp{num(0, low)}) {
			t.Errorf("Make(%d) = %v", kind, got)
		}
	}
}

// TestP1903MakeShares has that neither what is told nor what was handed in changes with the other.
func TestP1903MakeShares(t *testing.T) {
	given := []api.Avp{{Type: 7, Value: "a"}, {Type: 8, Value: "b"}, {Type: 98}, {Type: 99}}
	for n := range len(given) + 1 {
		l := slices.Clone(given)[:n] // what is behind is spare room
		want := append([]api.Avp{num(0, 6)}, given[:n]...)
		got := Make(6, l...)
		other := Make(6, l...)
		for i := range l {
			l[i] = api.Avp{Type: -1, Value: "turned"}
		}
		if !slices.Equal(got, want) {
			t.Errorf("Make of %d values became %v", n, got)
		}
		got = got[:cap(got)]
		for i := range got {
			got[i] = api.Avp{Type: -2, Value: "spoilt"}
		}
		if !slices.Equal(other, want) {
			t.Errorf("a second Make of %d values became %v", n, other)
		}
		for _, a := range l {
			if a.Type != -1 {
				t.Errorf("what was handed in became %v", l)
			}
		}
		if behind := l[n:cap(l)]; !slices.Equal(behind[:len(given)-n], given[n:]) {
			t.Errorf("its spare room became %v", behind)
		}
	}
}
