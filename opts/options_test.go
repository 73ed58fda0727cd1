package opts

import (
	"math"
	"math/rand/v2"
	"slices"
	"strings"
	"testing"

	"tollgate/api"
)

// P1001, P1003, and of P1004 what has to do with options.

// some tells n bytes, no two neighbours alike.
func some(n int) string {
	b := make([]byte, n)
	for i := range b {
		b[i] = byte(i*7 + 3)
	}
	return string(b)
}

// bare tells n options without a Value.
func bare(n int) []api.Option { return slices.Repeat([]api.Option{{Type: 1}}, n) }

func TestP1001Examples(t *testing.T) {
	if l, err := GetOptions("\x01\x01"); l != nil || err != api.ErrForm {
		t.Errorf("GetOptions of 1, 1 = %v, %d", l, err)
	}
	if l, err := GetOptions("\x01"); l != nil || err != api.ErrShort {
		t.Errorf("GetOptions of 1 = %v, %d", l, err)
	}
}

func TestP1001PutOptions(t *testing.T) {
	long := func(n int) api.Option { return api.Option{Type: 5, Value: some(n)} }
	bad := api.Option{Type: 0}
	for _, c := range []struct {
		what string
		l    []api.Option
		want string
		err  api.Errno
	}{
		{"nil", nil, "", api.OK},
		{"none", []api.Option{}, "", api.OK},
		{"one without a Value", []api.Option{{Type: 2}}, "\x02\x02", api.OK},
		{"two", []api.Option{{Type: 1, Value: "\x05\xdc"}, {Type: 3, Value: "\xc0\x23x"}}, "\x01\x04\x05\xdc\x03\x05\xc0\x23x", api.OK},
		{"the same twice", []api.Option{{Type: 7, Value: "a"}, {Type: 7, Value: "a"}}, "\x07\x03a\x07\x03a", api.OK},
		{"a Type of 1", []api.Option{{Type: 1, Value: "\x00"}}, "\x01\x03\x00", api.OK},
		{"a Type of 255", []api.Option{{Type: 255}}, "\xff\x02", api.OK},
		{"a Type of 0", []api.Option{bad}, "", api.ErrArg},
		{"a Type of 256", []api.Option{{Type: 256}}, "", api.ErrArg},
		{"a Type of 257", []api.Option{{Type: 257}}, "", api.ErrArg},
		{"a Type of -1", []api.Option{{Type: -1}}, "", api.ErrArg},
		{"a Type of -255", []api.Option{{Type: -255}}, "", api.ErrArg},
		{"the least Type", []api.Option{{Type: math.MinInt}}, "", api.ErrArg},
		{"the greatest Type", []api.Option{{Type: math.MaxInt}}, "", api.ErrArg},
		{"a Value of 1 byte", []api.Option{long(1)}, "\x05\x03" + some(1), api.OK},
		{"a Value of 252 bytes", []api.Option{long(252)}, "\x05\xfe" + some(252), api.OK},
		{"a Value of 253 bytes", []api.Option{long(253)}, "\x05\xff" + some(253), api.OK},
		{"a Value of 254 bytes", []api.Option{long(254)}, "", api.ErrArg},
		{"a Value of 255 bytes", []api.Option{long(255)}, "", api.ErrArg},
		{"a Value of 256 bytes", []api.Option{long(256)}, "", api.ErrArg},
		{"a Value of 65536 bytes", []api.Option{long(65536)}, "", api.ErrArg},
		{"a good one, a bad one", []api.Option{{Type: 1}, bad}, "", api.ErrArg},
		{"a good one, one too long", []api.Option{{Type: 1}, long(254)}, "", api.ErrArg},
		{"a bad one, a good one", []api.Option{bad, {Type: 1}}, "", api.ErrArg},
		{"30", bare(30), strings.Repeat("\x01\x02", 30), api.OK},
		{"31", bare(31), "", api.ErrLong},
		{"1000", bare(1000), "", api.ErrLong},
		{"30, all bad", make([]api.Option, 30), "", api.ErrArg},
		{"31, all bad", make([]api.Option, 31), "", api.ErrLong}, // how many is looked at ahead of what they are
		{"30 of 253 bytes", slices.Repeat([]api.Option{long(253)}, 30), strings.Repeat("\x05\xff"+some(253), 30), api.OK},
	} {
		if got, err := PutOptions(c.l); got != c.want || err != c.err {
			t.Errorf("PutOptions of %s = %q, %d, not %q, %d", c.what, got, err, c.want, c.err)
		}
	}
}

func TestP1001GetOptions(t *testing.T) {
	ones := func(n int) string { return strings.Repeat("\x01\x02", n) }
	for _, c := range []struct {
		b    string
		want []api.Option
		err  api.Errno
	}{
		{"", nil, api.OK},
		{"\x01\x02", []api.Option{{Type: 1}}, api.OK},
		{"\xff\x02", []api.Option{{Type: 255}}, api.OK},
		{"\x80\x03\xff", []api.Option{{Type: 128, Value: "\xff"}}, api.OK},
		{"\x01\x04\x05\xdc\x03\x05\xc0\x23x", []api.Option{{Type: 1, Value: "\x05\xdc"}, {Type: 3, Value: "\xc0\x23x"}}, api.OK},
		{"\x01\x04\x00\x00\x02\x02", []api.Option{{Type: 1, Value: "\x00\x00"}, {Type: 2}}, api.OK}, // noughts in a Value say nothing
		{"\x07\x03a\x07\x03a", []api.Option{{Type: 7, Value: "a"}, {Type: 7, Value: "a"}}, api.OK},
		{"\x01\xff" + some(253), []api.Option{{Type: 1, Value: some(253)}}, api.OK},
		{"\x01\xff" + some(252), nil, api.ErrShort},
		{"\x00", nil, api.ErrShort}, // one byte alone, whatever it is
		{"\xff", nil, api.ErrShort},
		{"\x00\x00", nil, api.ErrForm},
		{"\x00\x01", nil, api.ErrForm},
		{"\x00\x02", nil, api.ErrForm},
		{"\x00\x03", nil, api.ErrForm}, // the Type is looked at ahead of what is left
		{"\x00\xff", nil, api.ErrForm},
		{"\x01\x00", nil, api.ErrForm},
		{"\x01\x01", nil, api.ErrForm},
		{"\x01\x00xyz", nil, api.ErrForm},
		{"\x01\x01xyz", nil, api.ErrForm},
		{"\x01\x03", nil, api.ErrShort},
		{"\x01\x04a", nil, api.ErrShort},
		{"\x01\x02\x00", nil, api.ErrShort},
		{"\x01\x02\x01", nil, api.ErrShort},
		{"\x01\x02\x00\x02", nil, api.ErrForm},
		{"\x01\x02\x02\x01", nil, api.ErrForm},
		{"\x01\x02\x02\x03", nil, api.ErrShort},
		{"\x01\x01\x01", nil, api.ErrForm}, // from the front on: what is first is told
		{"\x01\x04ab\x00\x00", nil, api.ErrForm},
		{"\x01\x05ab\x00\x00", nil, api.ErrShort},
		{ones(30), bare(30), api.OK},
		{ones(31), nil, api.ErrLong},
		{ones(400), nil, api.ErrLong},
		{ones(30) + "\x01", nil, api.ErrShort},
		{ones(30) + "\x00\x02", nil, api.ErrForm}, // the option that would be too many is none
		{ones(30) + "\x01\x01", nil, api.ErrForm},
		{ones(30) + "\x01\x03", nil, api.ErrShort},
		{ones(31) + "\x01", nil, api.ErrLong},
		{ones(31) + "\x00\x00", nil, api.ErrLong},
	} {
		got, err := GetOptions(c.b)
		if !slices.Equal(got, c.want) || err != c.err {
			t.Errorf("GetOptions of %.40q (%d bytes) = %v, %d, not %v, %d", c.b, len(c.b), got, err, c.want, c.err)
		}
	}
}

func TestP1001EveryHead(t *testing.T) {
	for kind := range 256 {
		for n := range 256 {
			head := string([]byte{byte(kind), byte(n)})
			got, err := GetOptions(head + some(max(n-2, 0)))
			if kind == 0 || n < 2 {
				if got != nil || err != api.ErrForm {
					t.Fatalf("GetOptions of Type %d, length %d = %v, %d", kind, n, got, err)
				}
				continue
			}
			if want := []api.Option{{Type: kind, Value: some(n - 2)}}; !slices.Equal(got, want) || err != api.OK {
				t.Fatalf("GetOptions of Type %d, length %d = %v, %d", kind, n, got, err)
			}
		}
	}
}

func TestP1001CutEverywhere(t *testing.T) {
	l := []api.Option{{Type: 1, Value: "\x05\xdc"}, {Type: 2}, {Type: 5, Value: "\x00\x00u"}}
	b := "\x01\x04\x05\xdc" + "\x02\x02" + "\x05\x05\x00\x00u"
	whole := map[int]int{0: 0, 4: 1, 6: 2, 11: 3} // how many options end just there
	for i := range len(b) + 1 {
		got, err := GetOptions(b[:i])
		n, good := whole[i]
		if good && (!slices.Equal(got, l[:n]) || err != api.OK) {
			t.Errorf("GetOptions of the first %d bytes = %v, %d, not %v", i, got, err, l[:n])
		}
		if !good && (got != nil || err != api.ErrShort) {
			t.Errorf("GetOptions of the first %d bytes = %v, %d, not %d", i, got, err, api.ErrShort)
		}
	}
}

func TestP1001NothingIsShared(t *testing.T) {
	room := []api.Option{{Type: 1, Value: "a"}, {Type: 2, Value: "b"}, {Type: 3, Value: "c"}}
	kept := slices.Clone(room)
	for range 2 {
		if b, err := PutOptions(room[:2]); b != "\x01\x03a\x02\x03b" || err != api.OK {
			t.Errorf("PutOptions = %q, %d", b, err)
		}
	}
	if !slices.Equal(room, kept) {
		t.Errorf("PutOptions changed what it was given: %v", room)
	}
	b := "\x01\x03a\x02\x02"
	one, _ := GetOptions(b)
	if len(one) != 2 {
		t.Fatalf("GetOptions = %v", one)
	}
	spoil(one)
	if two, err := GetOptions(b); !slices.Equal(two, []api.Option{{Type: 1, Value: "a"}, {Type: 2}}) || err != api.OK {
		t.Errorf("GetOptions again = %v, %d", two, err)
	}
}

// spoil changes a list and all its spare room.
func spoil(l []api.Option) {
	l = l[:cap(l)]
	for i := range l {
		l[i] = api.Option{Type: -9, Value: "spoilt"}
	}
}

func TestP1003Find(t *testing.T) {
	l := []api.Option{{Type: 1, Value: "a"}, {Type: 3}, {Type: 7, Value: "x"}, {Type: 1, Value: "b"}, {Type: 3, Value: "late"}, {Type: 0, Value: "nought"}, {Type: -5, Value: "below"}}
	kept := slices.Clone(l)
	for _, c := range []struct {
		kind int
		want string
		is   bool
	}{
		{1, "a", true},
		{3, "", true}, // the first one has no Value, though a later one has
		{7, "x", true},
		{0, "nought", true},
		{-5, "below", true},
		{2, "", false},
		{5, "", false},
		{256 + 7, "", false},
		{65536 + 7, "", false},
		{math.MaxInt, "", false},
		{math.MinInt, "", false},
	} {
		if got, is := Find(l, c.kind); got != c.want || is != c.is {
			t.Errorf("Find(%d) = %q, %v, not %q, %v", c.kind, got, is, c.want, c.is)
		}
	}
	if !slices.Equal(l, kept) {
		t.Errorf("Find changed what it was given: %v", l)
	}
	if got, is := Find(nil, 0); got != "" || is {
		t.Errorf("Find in nothing = %q, %v", got, is)
	}
	if got, is := Find(append(bare(100), api.Option{Type: 2, Value: some(300)}), 2); got != some(300) || !is {
		t.Errorf("Find behind more than MaxOptions = %q, %v", got, is)
	}
}

func TestP1003Same(t *testing.T) {
	a, b, c := api.Option{Type: 1, Value: "a"}, api.Option{Type: 2, Value: "b"}, api.Option{Type: 3}
	for _, x := range []struct {
		a, b []api.Option
		want bool
	}{
		{nil, nil, true},
		{nil, []api.Option{}, true},
		{nil, []api.Option{{}}, false},
		{[]api.Option{{}}, []api.Option{{}}, true},
		{[]api.Option{a, b, c}, []api.Option{a, b, c}, true},
		{[]api.Option{a, b, c}, []api.Option{b, a, c}, false},
		{[]api.Option{a, b, c}, []api.Option{a, c, b}, false},
		{[]api.Option{a, b, c}, []api.Option{a, b}, false},
		{[]api.Option{a, b, c}, []api.Option{b, c}, false},
		{[]api.Option{a, a}, []api.Option{a}, false},
		{[]api.Option{a, a, b}, []api.Option{a, b, b}, false},
		{[]api.Option{a, b, c}, []api.Option{a, b, {Type: 3, Value: "\x00"}}, false},
		{[]api.Option{a, b, c}, []api.Option{{Type: 1, Value: "A"}, b, c}, false},
		{[]api.Option{a, b, c}, []api.Option{a, {Type: 4, Value: "b"}, c}, false},
		{[]api.Option{a}, []api.Option{{Type: 257, Value: "a"}}, false},
		{[]api.Option{{Type: math.MinInt, Value: "a"}}, []api.Option{{Type: math.MinInt, Value: "a"}}, true}, // any list, not only one that may be put
		{bare(40), bare(40), true},
		{bare(40), bare(41), false},
		{[]api.Option{{Type: 1, Value: "ab"}, {Type: 1}}, []api.Option{{Type: 1, Value: "a"}, {Type: 1, Value: "b"}}, false},
	} {
		if got := Same(x.a, x.b); got != x.want {
			t.Errorf("Same(%v, %v) = %v", x.a, x.b, got)
		}
		if got := Same(x.b, x.a); got != x.want {
			t.Errorf("Same(%v, %v) = %v", x.b, x.a, got)
		}
	}
}

func TestP1003Value(t *testing.T) {
	for _, c := range []struct {
		s    string
		want int
		is   bool
	}{
		{"", 0, true},
		{"\x00", 0, true},
		{"\x01", 1, true},
		{"\xff", 255, true},
		{"\x01\x02", 258, true},
		{"\x02\x01", 513, true},
		{"\x05\xdc", 1500, true},
		{"\x01\x02\x03", 66051, true},
		{"\x80\x00\x00\x00", 2147483648, true},
		{"\xff\xff\xff\xff", 4294967295, true},
		{"\x01\x02\x03\x04\x05", 4328719365, true},
		{"\x01\x02\x03\x04\x05\x06", 1108152157446, true},
		{"\x00\x00\x00\x00\x00\x00\x09", 9, true},
		{"\x01\x02\x03\x04\x05\x06\x07", 283686952306183, true},
		{"\xff\xff\xff\xff\xff\xff\xff", 72057594037927935, true},
		{"\x00\x00\x00\x00\x00\x00\x00\x00", 0, false},
		{"\x00\x00\x00\x00\x00\x00\x00\x01", 0, false},
		{"\xff\xff\xff\xff\xff\xff\xff\xff", 0, false},
		{some(9), 0, false},
		{some(300), 0, false},
	} {
		if got, is := Value(c.s); got != c.want || is != c.is {
			t.Errorf("Value(%.12q) = %d, %v, not %d, %v", c.s, got, is, c.want, c.is)
		}
	}
	for v := range 65536 {
		if got, is := Value(string([]byte{byte(v / 256), byte(v % 256)})); got != v || !is {
			t.Fatalf("Value of %d in two bytes = %d, %v", v, got, is)
		}
	}
}

func TestP1004Options(t *testing.T) {
	hold := func(l []api.Option) {
		b, err := PutOptions(l)
		if err != api.OK {
			t.Errorf("PutOptions(%v) = %d", l, err)
			return
		}
		if got, err := GetOptions(b); !slices.Equal(got, l) || err != api.OK {
			t.Errorf("GetOptions of PutOptions(%v) = %v, %d", l, got, err)
		}
	}
	for n := range 254 {
		hold([]api.Option{{Type: n + 1, Value: some(n)}, {Type: 255 - n, Value: "v"}})
	}
	r := rand.New(rand.NewPCG(10, 4))
	for range 3000 {
		hold(anyOptions(r, 31, 254))
	}
}

// anyOptions tells some options that may be put: fewer than most, with Values of fewer than wide bytes.
func anyOptions(r *rand.Rand, most, wide int) []api.Option {
	l := make([]api.Option, r.IntN(most))
	for i := range l {
		l[i] = api.Option{Type: 1 + r.IntN(255), Value: some(r.IntN(wide))}
	}
	return l
}

// walk tells what GetOptions should, by a second way: by places in the whole, not by what is left.
func walk(b string) ([]api.Option, api.Errno) {
	var l []api.Option
	for i := 0; i < len(b); {
		switch left := len(b) - i; {
		case left == 1:
			return nil, api.ErrShort
		case b[i] < 1, b[i+1] < 2:
			return nil, api.ErrForm
		case left < int(b[i+1]):
			return nil, api.ErrShort
		case len(l) > 29:
			return nil, api.ErrLong
		}
		next := i + int(b[i+1])
		l = append(l, api.Option{Type: int(b[i]), Value: b[i+2 : next]})
		i = next
	}
	return l, api.OK
}

func TestP1001AnyBytes(t *testing.T) {
	r := rand.New(rand.NewPCG(10, 1))
	seen := map[api.Errno]int{}
	for range 60000 {
		b := make([]byte, r.IntN(100))
		for i := range b {
			b[i] = byte(1 + r.IntN(4)) // small numbers, so that options and cuts come about
			if r.IntN(60) == 0 {
				b[i] = byte(r.IntN(256))
			}
		}
		for i := range r.IntN(1 + len(b)/2) {
			copy(b[2*i:], []byte{byte(1 + r.IntN(255)), 2}) // and some begin with many options
		}
		want, werr := walk(string(b))
		got, err := GetOptions(string(b))
		if !slices.Equal(got, want) || err != werr {
			t.Fatalf("GetOptions(%q) = %v, %d, not %v, %d", b, got, err, want, werr)
		}
		seen[err]++
	}
	for _, e := range []api.Errno{api.OK, api.ErrShort, api.ErrForm, api.ErrLong} {
		if seen[e] == 0 {
			t.Errorf("no bytes were answered by %d", e)
		}
	}
}
