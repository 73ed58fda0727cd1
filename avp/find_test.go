package avp

import (
	"encoding/binary"
	"math"
	"slices"
	"testing"

	"tollgate/api"
)

// P1803.

func TestP1803Same(t *testing.T) {
	a, b, c := api.Avp{Must: true, Type: 1, Value: "a"}, api.Avp{Hidden: true, Type: 2, Value: "b"}, api.Avp{Vendor: 9, Type: 3}
	for _, x := range []struct {
		a, b []api.Avp
		want bool
	}{
		{nil, nil, true},
		{nil, []api.Avp{}, true},
		{nil, []api.Avp{{}}, false},
		{[]api.Avp{{}}, []api.Avp{{}}, true},
		{[]api.Avp{a, b, c}, []api.Avp{a, b, c}, true},
		{[]api.Avp{a, b, c}, []api.Avp{b, a, c}, false},
		{[]api.Avp{a, b, c}, []api.Avp{a, c, b}, false},
		{[]api.Avp{a, b, c}, []api.Avp{a, b}, false},
		{[]api.Avp{a, b, c}, []api.Avp{b, c}, false},
		{[]api.Avp{a, a}, []api.Avp{a}, false},
		{[]api.Avp{a, a, b}, []api.Avp{a, b, b}, false},
		{[]api.Avp{{Type: math.MinInt, Vendor: math.MaxInt}}, []api.Avp{{Type: math.MinInt, Vendor: math.MaxInt}}, true}, // any list, not only one that may be put
		{bare(50), bare(50), true},
		{bare(50), bare(51), false},
		{[]api.Avp{{Type: 1, Value: "ab"}, {Type: 1}}, []api.Avp{{Type: 1, Value: "a"}, {Type: 1, Value: "b"}}, false},
	} {
		if got := Same(x.a, x.b); got != x.want {
			t.Errorf("Same(%v, %v) = %v", x.a, x.b, got)
		}
		if got := Same(x.b, x.a); got != x.want {
			t.Errorf("Same(%v, %v) = %v", x.b, x.a, got)
		}
	}
}

// TestP1803SameFields has lists that differ in just one field of one value.
func TestP1803SameFields(t *testing.T) {
	for _, from := range []api.Avp{{}, {Must: true, Hidden: true, Vendor: 9, Type: 7, Value: "abc"}} {
		changes := make([]api.Avp, 8)
		for i := range changes {
			changes[i] = from
		}
		changes[0].Must = !from.Must
		changes[1].Hidden = !from.Hidden
		changes[2].Vendor++
		changes[3].Vendor += 65536
		changes[4].Type++
		changes[5].Type += 65536
		changes[6].Value += "\x00"
		changes[7].Value += "d"
		for i, other := range changes {
			for at := range 3 {
				a := []api.Avp{from, from, from}
				b := slices.Clone(a)
				if !Same(a, b) {
					t.Errorf("Same of %v and itself is false", a)
				}
				b[at] = other
				if Same(a, b) || Same(b, a) {
					t.Errorf("Same with change %d at %d is true", i, at)
				}
			}
		}
	}
}

func TestP1803Num(t *testing.T) {
	for _, v := range []int{0, 1, 2, 255, 256, 257, 65535, 65536, 65537, 1 << 24, 1 << 32, 1<<32 - 1, -1, -2, -256, math.MinInt, math.MaxInt, 0x0102030405060708} {
		var all [8]byte
		binary.BigEndian.PutUint64(all[:], uint64(v))
		for n := -20; n < 30; n++ {
			want := ""
			if n >= 1 && n <= 8 {
				want = string(all[8-n:])
			}
			for _, kind := range []int{0, 5, 36, 65535, -1, 65536, math.MinInt, math.MaxInt} {
				if got := Num(kind, v, n); got != (api.Avp{Must: true, Type: kind, Value: want}) {
					t.Errorf("Num(%d, %d, %d) = %v, not %x", kind, v, n, got, want)
				}
			}
		}
	}
}

// TestP1803NumAnyWidth has n so far off that what is reckoned from it would wrap.
func TestP1803NumAnyWidth(t *testing.T) {
	for _, n := range []int{math.MinInt, math.MinInt + 1, math.MinInt + 2, math.MaxInt, math.MaxInt - 1, 1 << 61, 1<<61 + 1, 1<<61 + 2, -1 << 61, -1<<61 + 2, -1<<60 - 1, -1 << 60, 1<<60 + 1, 1<<32 + 1, 256, 257, 264} {
		if got := Num(5, -1, n); got != (api.Avp{Must: true, Type: 5}) {
			t.Errorf("Num(5, -1, %d) = %v", n, got)
		}
	}
}

// found is a list with what may stand of a type.
func found() []api.Avp {
	return []api.Avp{
		{Vendor: 1, Type: 9, Value: "no"}, // of another Vendor, ahead of the one that counts
		{Must: true, Type: 9, Value: "\x01\x02"},
		{Type: 9, Value: "\x07"},
		{Vendor: 2, Type: 12, Value: "x"}, // there only with other Vendors
		{Vendor: 65535, Type: 12, Value: "x"},
		{Type: 20}, // no byte, though a later one has
		{Type: 20, Value: "\x05"},
		{Type: 21, Value: "\x80"},
		{Type: 27, Value: "\x01\x02\x03\x04\x05\x06\x07"},
		{Type: 28, Value: "\x01\x02\x03\x04\x05\x06\x07\x08"},
		{Type: 29, Value: "\x00\x00\x00\x00\x00\x00\x00\x01"},
		{Type: 30, Value: some(300)},
		{Type: 31, Value: "\xff\xff\xff\xff\xff\xff\xff"},
		{Type: 32, Value: "\x00\x00\x01"},
		{Hidden: true, Type: 33, Value: "\x21"},
		{Type: 0, Value: "\x00\x06"},
		{Type: -5, Value: "\x03"},
		{Type: 65545, Value: "\x04"},
		{Type: math.MinInt, Value: "\x08"},
	}
}

func TestP1803FindNumber(t *testing.T) {
	l := found()
	for _, c := range []struct {
		kind  int
		value string
		is    bool
		v     int
		isNum bool
	}{
		{9, "\x01\x02", true, 258, true},
		{12, "", false, 0, false},
		{13, "", false, 0, false},
		{20, "", true, 0, false},
		{21, "\x80", true, 128, true},
		{27, "\x01\x02\x03\x04\x05\x06\x07", true, 283686952306183, true},
		{28, "\x01\x02\x03\x04\x05\x06\x07\x08", true, 0, false},
		{29, "\x00\x00\x00\x00\x00\x00\x00\x01", true, 0, false},
		{30, some(300), true, 0, false},
		{31, "\xff\xff\xff\xff\xff\xff\xff", true, 72057594037927935, true},
		{32, "\x00\x00\x01", true, 1, true},
		{33, "\x21", true, 33, true},
		{0, "\x00\x06", true, 6, true},
		{-5, "\x03", true, 3, true},
		{65545, "\x04", true, 4, true},
		{math.MinInt, "\x08", true, 8, true},
		{math.MaxInt, "", false, 0, false},
		{65536, "", false, 0, false},
		{-1, "", false, 0, false},
	} {
		if got, is := Find(l, c.kind); got != c.value || is != c.is {
			t.Errorf("Find(%d) = %x, %v, not %x, %v", c.kind, got, is, c.value, c.is)
		}
		if got, is := Number(l, c.kind); got != c.v || is != c.isNum {
			t.Errorf("Number(%d) = %d, %v, not %d, %v", c.kind, got, is, c.v, c.isNum)
		}
		if got, is := Find(nil, c.kind); got != "" || is {
			t.Errorf("Find(%d) in nothing = %x, %v", c.kind, got, is)
		}
		if got, is := Number([]api.Avp{}, c.kind); got != 0 || is {
			t.Errorf("Number(%d) in nothing = %d, %v", c.kind, got, is)
		}
	}
	if !slices.Equal(l, found()) {
		t.Errorf("what was handed in is changed: %v", l)
	}
	if got, is := Number(append(bare(100), api.Avp{Type: 2, Value: "\x09"}), 2); got != 9 || !is {
		t.Errorf("Number behind more than MaxAvps = %d, %v", got, is)
	}
}

// TestP1803NumberOfNum has that a number of up to 7 bytes comes back.
func TestP1803NumberOfNum(t *testing.T) {
	for n := 1; n <= 7; n++ {
		for _, v := range []int{0, 1, 127, 128, 255, 256, 65535, 65536, 1 << 40, 1<<56 - 1} {
			if got, is := Number([]api.Avp{Num(9, v, n)}, 9); got != v%(1<<(8*n)) || !is {
				t.Errorf("Number of %d in %d bytes = %d, %v", v, n, got, is)
			}
		}
	}
	for v := range 65536 {
		if got, is := Number([]api.Avp{Num(9, v, 2)}, 9); got != v || !is {
			t.Fatalf("Number of %d in 2 bytes = %d, %v", v, got, is)
		}
	}
}

func TestP1803Length(t *testing.T) {
	// By the Types' numbers, so that a slip in a name shows.
	want := []int{2, -1, 2, 4, -2, 8, -2, -1, -2, 2, 2, -1, -2, 16, 2, 4, -2, -2, -2, 4, -2, -2, -2, -2, 4, -2, -1, -1, -1, 2, -1, -1, 2, -1, -1, -1, -1, -2, -2, 0}
	for kind := -300; kind < 70000; kind++ {
		n := -2
		if kind >= 0 && kind < len(want) {
			n = want[kind]
		}
		if got := Length(kind); got != n {
			t.Errorf("Length(%d) = %d, not %d", kind, got, n)
		}
	}
	for _, kind := range []int{math.MinInt, math.MaxInt, 1 << 32, 1<<32 + 5, -1 << 32} {
		if got := Length(kind); got != -2 {
			t.Errorf("Length(%d) = %d", kind, got)
		}
	}
}
