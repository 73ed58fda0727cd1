package avp

import (
	"math"
	"slices"
	"strings"
	"testing"

	"tollgate/api"
	"tollgate/byhand"
)

// P1801, but for Hidden values, which are in hide_test.go.

func TestP1801Example(t *testing.T) {
	holdPut(t, "the example", []api.Avp{{Must: true, Value: "\x00\x01"}}, "", string([]byte{128, 8, 0, 0, 0, 0, 0, 1}), api.OK)
}

func TestP1801Put(t *testing.T) {
	for _, c := range []struct {
		what string
		l    []api.Avp
		want string
	}{
		{"nil", nil, ""},
		{"none", []api.Avp{}, ""},
		{"a zero one", []api.Avp{{}}, "\x00\x06\x00\x00\x00\x00"},
		{"one without a Value", []api.Avp{{Type: 39}}, "\x00\x06\x00\x00\x00\x27"},
		{"one that is Must", []api.Avp{{Must: true, Type: 39}}, "\x80\x06\x00\x00\x00\x27"},
		{"one of a Vendor", []api.Avp{{Vendor: 0x1234, Type: 0x5678, Value: "v"}}, "\x00\x07\x12\x34\x56\x78v"},
		{"several", []api.Avp{{Must: true, Value: "\x00\x06"}, {Vendor: 9, Type: 7, Value: "name"}, {Must: true, Type: 39}}, "\x80\x08\x00\x00\x00\x00\x00\x06" + "\x00\x0a\x00\x09\x00\x07name" + "\x80\x06\x00\x00\x00\x27"},
		{"the same twice", []api.Avp{{Type: 7, Value: "a"}, {Type: 7, Value: "a"}}, "\x00\x07\x00\x00\x00\x07a\x00\x07\x00\x00\x00\x07a"},
		{"a vector alone", []api.Avp{vector("vec")}, "\x80\x09\x00\x00\x00\x24vec"},
		{"40", bare(40), bares(40)},
	} {
		for _, secret := range []string{"", "s", some(300)} { // where nothing is Hidden it says nothing
			holdPut(t, c.what, c.l, secret, c.want, api.OK)
		}
	}
}

// TestP1801Words has Vendor and Type at the edges of two bytes.
func TestP1801Words(t *testing.T) {
	for _, v := range []int{-1, 0, 1, 255, 256, 65535, 65536, 65537, -65535, math.MinInt, math.MaxInt} {
		good := v >= 0 && v < 65536
		for _, must := range []bool{false, true} {
			flags := 0
			if must {
				flags = 32768
			}
			hold := func(what string, a api.Avp, want string) {
				t.Helper()
				err := api.OK
				if !good {
					want, err = "", api.ErrArg
				}
				a.Must = must
				holdPut(t, what, []api.Avp{a}, "s", want, err)
			}
			hold("a Vendor", api.Avp{Vendor: v, Type: 258, Value: "x"}, byhand.Value(flags, v, 258, "x"))
			hold("a Type", api.Avp{Vendor: 258, Type: v, Value: "x"}, byhand.Value(flags, 258, v, "x"))
			hold("both", api.Avp{Vendor: v, Type: v}, byhand.Value(flags, v, v, ""))
		}
	}
}

func TestP1801Value(t *testing.T) {
	for _, n := range []int{0, 1, 2, 248, 249, 250, 251, 505, 506, 999, 1000} {
		l := []api.Avp{{Must: true, Type: 7, Value: some(n)}}
		holdPut(t, "a Value", l, "", byhand.Word(32768+6+n)+"\x00\x00\x00\x07"+some(n), api.OK)
	}
	for _, n := range []int{1001, 1002, 1017, 1018, 1024, 1500, 65536, 70000} {
		holdPut(t, "a Value too long", []api.Avp{{Type: 7, Value: some(n)}}, "", "", api.ErrLong)
	}
}

// TestP1801Count has as many values as may be, and more.
func TestP1801Count(t *testing.T) {
	for n := range 60 {
		want, err := bares(n), api.OK
		if n > 40 {
			want, err = "", api.ErrLong
		}
		holdPut(t, "so many", bare(n), "", want, err)
	}
	holdPut(t, "far more", bare(5000), "", "", api.ErrLong)
}

// TestP1801Room has values whose bytes are just as many as may be in all, and one more.
func TestP1801Room(t *testing.T) {
	of := func(sizes ...int) []api.Avp {
		var l []api.Avp
		for _, n := range sizes {
			l = append(l, api.Avp{Type: 2, Value: some(n - 6)})
		}
		return l
	}
	parts := slices.Repeat([]int{37}, 39) // with a last one, as many values as may be
	for _, c := range [][]int{{1006, 482}, {482, 1006}, {6, 1006, 476}, {744, 744}, {496, 496, 496}, append(parts, mostRoom-39*37)} {
		l := of(c...)
		want := ""
		for _, a := range l {
			want += byhand.Value(0, 0, 2, a.Value)
		}
		if len(want) != mostRoom {
			t.Fatalf("%v are %d bytes", c, len(want))
		}
		holdPut(t, "all room", l, "", want, api.OK)
		for i := range l {
			if len(l[i].Value) == 1000 {
				continue
			}
			more := slices.Clone(l)
			more[i].Value += "x"
			holdPut(t, "one byte too many", more, "", "", api.ErrLong)
			if l[i].Value != "" {
				less := slices.Clone(l)
				less[i].Value = less[i].Value[1:]
				if b, err := Put(less, ""); len(b) != mostRoom-1 || err != api.OK {
					t.Errorf("one byte less = %d bytes, %d", len(b), err)
				}
			}
		}
	}
	holdPut(t, "all room and a bare one", append(of(1006, 482), api.Avp{}), "", "", api.ErrLong)
	holdPut(t, "40 of the longest", of(slices.Repeat([]int{1006}, 40)...), "", "", api.ErrLong)
}

// TestP1801Order has values of which more than one thing is wrong.
func TestP1801Order(t *testing.T) {
	bad, long := api.Avp{Type: -1}, api.Avp{Value: some(1001)}
	closed := hidden(7, "x")
	full := []api.Avp{{Value: some(1000)}, {Value: some(1000)}}
	for _, c := range []struct {
		what   string
		l      []api.Avp
		secret string
		err    api.Errno
	}{
		{"too many, all bad", slices.Repeat([]api.Avp{bad}, 41), "s", api.ErrLong},
		{"not too many, all bad", slices.Repeat([]api.Avp{bad}, 40), "s", api.ErrArg},
		{"too many, all closed", slices.Repeat([]api.Avp{closed}, 41), "", api.ErrLong},
		{"a bad Type, too long", []api.Avp{{Type: 65536, Value: some(1001)}}, "s", api.ErrArg},
		{"a bad Vendor, too long", []api.Avp{{Vendor: -1, Value: some(1001)}}, "s", api.ErrArg},
		{"a bad Type, no secret", []api.Avp{vector("v"), {Hidden: true, Type: 65536}}, "", api.ErrArg},
		{"a bad Vendor, no vector", []api.Avp{{Hidden: true, Vendor: 65536}}, "s", api.ErrArg},
		{"all of it", []api.Avp{{Hidden: true, Vendor: 65536, Value: some(1001)}}, "", api.ErrArg},
		{"too long, no secret", []api.Avp{vector("v"), hidden(7, some(1001))}, "", api.ErrLong},
		{"too long, no vector", []api.Avp{hidden(7, some(1001))}, "s", api.ErrLong},
		{"no secret, no vector", []api.Avp{closed}, "", api.ErrAuth},
		{"a good one, a bad one", []api.Avp{{}, bad}, "s", api.ErrArg},
		{"a bad one, a good one", []api.Avp{bad, {}}, "s", api.ErrArg},
		{"value by value: bad, long", []api.Avp{bad, long}, "", api.ErrArg},
		{"value by value: long, bad", []api.Avp{long, bad}, "", api.ErrLong},
		{"value by value: bad, closed", []api.Avp{bad, closed}, "", api.ErrArg},
		{"value by value: no secret, bad", []api.Avp{closed, bad}, "", api.ErrAuth},
		{"value by value: no vector, bad", []api.Avp{closed, bad}, "s", api.ErrMust},
		{"value by value: no vector, long", []api.Avp{closed, long}, "s", api.ErrMust},
		{"value by value: long, closed", []api.Avp{long, closed}, "s", api.ErrLong},
		{"too many bytes in all", full, "", api.ErrLong},
		{"too many bytes in all, then bad", append(full[:2:2], bad), "", api.ErrArg}, // each value is looked at ahead of all bytes
		{"too many bytes in all, then no secret", append(full[:2:2], closed), "", api.ErrAuth},
		{"too many bytes in all, then no vector", append(full[:2:2], closed), "s", api.ErrMust},
	} {
		holdPut(t, c.what, c.l, c.secret, "", c.err)
	}
}

func TestP1801NothingIsChanged(t *testing.T) {
	room := []api.Avp{vector("v"), hidden(7, "name"), {Type: 9, Value: "spare"}, {Type: 10}}
	kept := slices.Clone(room)
	want := openly("v") + covered(7, "s", "v", "\x00\x04name")
	for range 3 {
		holdPut(t, "a list with spare room", room[:2], "s", want, api.OK)
	}
	if !slices.Equal(room, kept) {
		t.Errorf("Put changed what it was given: %v", room)
	}
}

// TestP1801Flags has that the length and the flags do not touch each other, at every length.
func TestP1801Flags(t *testing.T) {
	for n := range 1001 {
		for i, must := range []bool{false, true} {
			b, err := Put([]api.Avp{{Must: must, Type: 1, Value: strings.Repeat("\xff", n)}}, "")
			if err != api.OK || len(b) != 6+n || b[:2] != byhand.Word(i*32768+6+n) {
				t.Fatalf("Put of %d bytes, Must %v = %.8x, %d", n, must, b, err)
			}
		}
	}
}
