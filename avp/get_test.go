package avp

import (
	"fmt"
	"slices"
	"strings"
	"testing"

	"tollgate/api"
	"tollgate/byhand"
)

// P1802, but for Hidden values, which are in hide_test.go.

func TestP1802Example(t *testing.T) {
	holdGet(t, "the example", "\x80\x05\x00\x00\x00\x00", "", nil, api.ErrForm)
}

// front is what may stand right ahead of what is looked at.
type front struct {
	what, b string
	l       []api.Avp
}

func fronts() []front {
	return []front{
		{"nothing", "", nil},
		{"a bare one", bares(1), bare(1)},
		{"one with a Value", "\x80\x09\x00\x09\x00\x07abc", []api.Avp{{Must: true, Vendor: 9, Type: 7, Value: "abc"}}},
		{"a vector", openly("v"), []api.Avp{vector("v")}},
		{"a hidden one", openly("v") + covered(7, "s", "v", "\x00\x01n"), []api.Avp{vector("v"), hidden(7, "n")}},
		{"39", bares(39), bare(39)},
	}
}

// holdBehind holds what Get tells of some bytes, whatever stands right ahead of them.
func holdBehind(t *testing.T, what, b string, want []api.Avp, err api.Errno) {
	t.Helper()
	for _, f := range fronts() {
		if len(f.l)+len(want) > api.MaxAvps {
			continue
		}
		all := append(slices.Clone(f.l), want...)
		if err != api.OK {
			all = nil
		}
		holdGet(t, what+", behind "+f.what, f.b+b, "s", all, err)
	}
}

func TestP1802Get(t *testing.T) {
	for _, c := range []struct {
		b    string
		want []api.Avp
	}{
		{"", nil},
		{"\x00\x06\x00\x00\x00\x00", []api.Avp{{}}},
		{"\x80\x06\x00\x00\x00\x27", []api.Avp{{Must: true, Type: 39}}},
		{"\x80\x08\x00\x00\x00\x00\x00\x01", []api.Avp{{Must: true, Value: "\x00\x01"}}},
		{"\x00\x07\x12\x34\x56\x78v", []api.Avp{{Vendor: 0x1234, Type: 0x5678, Value: "v"}}},
		{"\x00\x06\xff\xff\xff\xff", []api.Avp{{Vendor: 65535, Type: 65535}}},
		{"\x00\x06\x80\x00\x00\x80", []api.Avp{{Vendor: 32768, Type: 128}}},
		{"\x00\x0c\x00\x00\x00\x07\x00\x06\x00\x00\x00\x01", []api.Avp{{Type: 7, Value: "\x00\x06\x00\x00\x00\x01"}}}, // what looks like one is its Value
		{"\x00\x07\x00\x00\x00\x07a\x00\x07\x00\x00\x00\x07a", []api.Avp{{Type: 7, Value: "a"}, {Type: 7, Value: "a"}}},
		{"\x80\x07\x00\x00\x00\x07a\x00\x06\x00\x09\x00\x07\x00\x08\x00\x00\x00\x07bc", []api.Avp{{Must: true, Type: 7, Value: "a"}, {Vendor: 9, Type: 7}, {Type: 7, Value: "bc"}}},
		{"\x01\x06\x00\x00\x00\x02" + some(256), []api.Avp{{Type: 2, Value: some(256)}}},
		{"\x03\xed\x00\x00\x00\x02" + some(999), []api.Avp{{Type: 2, Value: some(999)}}},
	} {
		holdBehind(t, fmt.Sprintf("%.30x", c.b), c.b, c.want, api.OK)
	}
}

func TestP1802NoSecret(t *testing.T) {
	for _, secret := range []string{"", "s", some(100)} { // where nothing is hidden it says nothing
		holdGet(t, "two", openly("v")+bares(1), secret, []api.Avp{vector("v"), {Type: 1}}, api.OK)
	}
}

// TestP1802Short has fewer bytes than a head, whatever they are.
func TestP1802Short(t *testing.T) {
	for n := 1; n < 6; n++ {
		for _, b := range []string{"\x00\x06\x00\x00\x00\x01", "\x80\x05\x00\x00\x00", "\x00\x00\x00\x00\x00", "\xff\xff\xff\xff\xff", "\x3c\x06\x00\x00\x00", "\x43\xff\x00\x00\x00"} {
			holdBehind(t, "a part of a head", b[:min(n, len(b))], nil, api.ErrShort)
		}
	}
}

// TestP1802Bits has each of the four bits that must be 0, alone, with others, and beside the flags.
func TestP1802Bits(t *testing.T) {
	for bits := range 16 {
		for flags := range 4 {
			b := byhand.Word(flags*16384+bits*1024+6) + "\x00\x00\x00\x01"
			switch {
			case bits != 0:
				holdBehind(t, "bits", b, nil, api.ErrForm)
			case flags%2 == 0: // not hidden
				holdBehind(t, "no bits", b, []api.Avp{{Must: flags == 2, Type: 1}}, api.OK)
			}
		}
	}
}

// TestP1802EveryFirst has each value of the first two bytes.
func TestP1802EveryFirst(t *testing.T) {
	room := openly("v") + "\x00\x00\x00\x00\x07\x07" + some(900)
	at := len(openly("v"))
	for first := range 65536 {
		must, closed, bits, size := first/32768 == 1, first/16384%2 == 1, first/1024%16, first%1024
		b := room[:at] + byhand.Word(first) + room[at+2:]
		if size <= 906 {
			b = b[:at+max(size, 6)]
		}
		var want []api.Avp
		err := api.OK
		switch {
		case bits != 0 || size < 6:
			err = api.ErrForm
		case size > 906:
			err = api.ErrShort
		case closed:
			err = api.ErrForm // some's bytes are not hidden by anything
		default:
			want = []api.Avp{vector("v"), {Must: must, Type: 0x0707, Value: some(900)[:size-6]}}
		}
		if got, gerr := Get(b, "s"); !slices.Equal(got, want) || gerr != err {
			t.Fatalf("a first word of %d: %.80v, %d, not %.80v, %d", first, got, gerr, want, err)
		}
	}
}

func TestP1802Length(t *testing.T) {
	head := func(first int) string { return byhand.Word(first) + "\x00\x00\x00\x01" }
	for n := range 6 {
		for _, flags := range []int{0, 16384, 32768, 49152} {
			holdBehind(t, "a length too small", head(flags+n), nil, api.ErrForm)
			holdBehind(t, "a length too small, with bytes behind", head(flags+n)+some(20), nil, api.ErrForm)
		}
	}
	holdBehind(t, "a length of 6", head(6), []api.Avp{{Type: 1}}, api.OK)
	for _, n := range []int{1, 2, 250, 999, 1000} {
		holdBehind(t, "just what is left", head(6+n)+some(n), []api.Avp{{Type: 1, Value: some(n)}}, api.OK)
		for _, flags := range []int{0, 16384, 32768, 49152} {
			holdBehind(t, "one more than is left", head(flags+6+n)+some(n-1), nil, api.ErrShort)
		}
		for behind := 1; behind < 6; behind++ {
			holdBehind(t, "less than a head behind", head(6+n)+some(n+behind), nil, api.ErrShort)
		}
	}
}

func TestP1802Long(t *testing.T) {
	holdBehind(t, "1,006", byhand.Value(0, 0, 1, some(1000)), []api.Avp{{Type: 1, Value: some(1000)}}, api.OK)
	for n := 1001; n < 1018; n++ { // up to the greatest length that ten bits hold
		holdBehind(t, "1,007 and more", byhand.Value(0, 0, 1, some(n)), nil, api.ErrLong)
		holdBehind(t, "1,007 and more, Must", byhand.Value(32768, 0, 1, some(n)), nil, api.ErrLong)
		holdBehind(t, "1,007 and more, but not there", byhand.Value(0, 0, 1, some(n))[:5+n], nil, api.ErrShort)
	}
	most := covered(7, "s", "v", whole(some(1000)))
	if len(most) != 1008 {
		t.Fatalf("a hidden one has %d bytes", len(most))
	}
	holdGet(t, "1,008, hidden", openly("v")+most, "s", []api.Avp{vector("v"), hidden(7, some(1000))}, api.OK)
	holdGet(t, "1,007, hidden", openly("v")+covered(7, "s", "v", whole(some(999))), "s", []api.Avp{vector("v"), hidden(7, some(999))}, api.OK)
	for n := 1003; n < 1018; n++ {
		holdBehind(t, "1,009 and more, hidden", openly("v")+byhand.Value(16384, 0, 7, masked(7, "s", "v", byhand.Word(n-2)+some(n-2))), nil, api.ErrLong)
	}
	all, want := strings.Repeat(byhand.Value(0, 0, 1, some(1000)), 40), slices.Repeat([]api.Avp{{Type: 1, Value: some(1000)}}, 40)
	holdGet(t, "40 of the longest", all, "", want, api.OK) // no bound on all bytes is named of Get
}

func TestP1802Count(t *testing.T) {
	for n := range 60 {
		want, err := bare(n), api.OK
		if n > 40 {
			want, err = nil, api.ErrLong
		}
		holdGet(t, "so many", bares(n), "", want, err)
	}
	holdGet(t, "far more", bares(5000), "", nil, api.ErrLong)
}

// TestP1802Order has bytes in which more than one thing is wrong.
func TestP1802Order(t *testing.T) {
	closed := covered(7, "s", "v", "\x00\x01n")
	broken := covered(7, "s", "v", "\x00\x02n")
	v := openly("v")
	for _, c := range []struct {
		what, b, secret string
		err             api.Errno
	}{
		{"bits in less than a head", "\x3c\x06\x00\x00\x00", "s", api.ErrShort},
		{"a length too small in less than a head", "\x00\x05\x00\x00\x00", "s", api.ErrShort},
		{"bits, and more than is left", "\x04\x07\x00\x00\x00\x01", "s", api.ErrForm},
		{"bits, and too long", "\x07\xef\x00\x00\x00\x01" + some(1001), "s", api.ErrForm},
		{"bits of a hidden one, no secret", "\x44\x06\x00\x00\x00\x01", "", api.ErrForm},
		{"too long, and more than is left", "\x03\xef\x00\x00\x00\x01" + some(1000), "s", api.ErrShort},
		{"the 41st is less than a head", bares(40) + "\x00\x06\x00\x00\x00", "s", api.ErrShort},
		{"the 41st has bits", bares(40) + "\x04\x06\x00\x00\x00\x01", "s", api.ErrForm},
		{"the 41st has a length too small", bares(40) + "\x00\x05\x00\x00\x00\x01", "s", api.ErrForm},
		{"the 41st is not all there", bares(40) + "\x00\x07\x00\x00\x00\x01", "s", api.ErrShort},
		{"the 41st is too long", bares(40) + byhand.Value(0, 0, 1, some(1001)), "s", api.ErrLong},
		{"the 41st is hidden, no secret", v + bares(39) + closed, "", api.ErrLong},
		{"the 41st is hidden, no vector", bares(40) + closed, "s", api.ErrLong},
		{"the 41st is hidden, and broken", v + bares(39) + broken, "s", api.ErrLong},
		{"behind the 41st there is none", bares(41) + "\x00", "s", api.ErrLong},
		{"a hidden one, not all there, no secret", v + closed[:len(closed)-1], "", api.ErrShort},
		{"a hidden one, too long, no secret", v + byhand.Value(16384, 0, 7, some(1003)), "", api.ErrLong},
		{"a hidden one, too long, no vector", byhand.Value(16384, 0, 7, some(1003)), "s", api.ErrLong},
		{"a hidden one, no secret, no vector", closed, "", api.ErrAuth},
		{"a hidden one, no secret, broken", v + broken, "", api.ErrAuth},
		{"a hidden one, no secret, no bytes", v + byhand.Value(16384, 0, 7, ""), "", api.ErrAuth},
		{"a hidden one, no vector, broken", broken, "s", api.ErrMust},
		{"a hidden one, no vector, no bytes", byhand.Value(16384, 0, 7, ""), "s", api.ErrMust},
		{"value by value: no vector, then short", closed + "\x00", "s", api.ErrMust},
		{"value by value: no secret, then bits", v + closed + "\x3c\x06\x00\x00\x00\x01", "", api.ErrAuth},
		{"value by value: broken, then short", v + broken + "\x00", "s", api.ErrForm},
		{"value by value: too long, then bits", byhand.Value(0, 0, 1, some(1001)) + "\x3c\x06\x00\x00\x00\x01", "s", api.ErrLong},
		{"value by value: bits, then short", "\x3c\x06\x00\x00\x00\x01\x00", "s", api.ErrForm},
		{"value by value: good, then no vector, then broken", bares(1) + closed + v + broken, "s", api.ErrMust},
	} {
		holdGet(t, c.what, c.b, c.secret, nil, c.err)
	}
}

func TestP1802CutEverywhere(t *testing.T) {
	l := []api.Avp{{Must: true, Type: 7, Value: "abc"}, vector("v"), hidden(7, "name"), {Vendor: 3, Type: 4}}
	b := "\x80\x09\x00\x00\x00\x07abc" + openly("v") + covered(7, "s", "v", "\x00\x04name") + "\x00\x06\x00\x03\x00\x04"
	whole := map[int]int{0: 0, 9: 1, 16: 2, 28: 3, 34: 4} // how many values end just there
	for i := range len(b) + 1 {
		if n, good := whole[i]; good {
			holdGet(t, "so many", b[:i], "s", l[:n], api.OK)
			continue
		}
		holdGet(t, "a part", b[:i], "s", nil, api.ErrShort)
	}
}

func TestP1802NothingIsShared(t *testing.T) {
	b := openly("v") + covered(7, "s", "v", "\x00\x04name") + bares(1)
	want := []api.Avp{vector("v"), hidden(7, "name"), {Type: 1}}
	for range 3 {
		got, err := Get(b, "s")
		if !slices.Equal(got, want) || err != api.OK {
			t.Errorf("Get = %v, %d", got, err)
		}
		got = got[:cap(got)]
		for i := range got {
			got[i] = api.Avp{Type: -9, Value: "spoilt"}
		}
	}
}
