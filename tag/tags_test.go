package tag

import (
	"math"
	"math/rand"
	"slices"
	"strings"
	"testing"

	"tollgate/api"
)

// P502, P503, and of P504 what has to do with tags.

func TestP502PutTags(t *testing.T) {
	long := func(n int) api.Tag { return api.Tag{Type: 1, Value: some(n)} }
	bare := func(n int) []api.Tag { return slices.Repeat([]api.Tag{{Type: api.TagService}}, n) }
	bad, huge := api.Tag{Type: 0}, long(mostRoom)
	for _, c := range []struct {
		what string
		l    []api.Tag
		want string
		err  api.Errno
	}{
		{"nil", nil, "", api.OK},
		{"none", []api.Tag{}, "", api.OK},
		{"one without a value", []api.Tag{{Type: 0x0101}}, "\x01\x01\x00\x00", api.OK},
		{"two", []api.Tag{{Type: api.TagUniq, Value: "ab"}, {Type: 0x0201, Value: "c"}}, "\x01\x03\x00\x02ab\x02\x01\x00\x01c", api.OK},
		{"a Type of 1", []api.Tag{{Type: 1, Value: "\x00"}}, "\x00\x01\x00\x01\x00", api.OK},
		{"a Type of 256", []api.Tag{{Type: 256}}, "\x01\x00\x00\x00", api.OK},
		{"a Type of 65535", []api.Tag{{Type: 65535}}, "\xff\xff\x00\x00", api.OK},
		{"a Value of 256 bytes", []api.Tag{long(256)}, "\x00\x01\x01\x00" + some(256), api.OK},
		{"a Type of 0", []api.Tag{{Type: 0}}, "", api.ErrArg},
		{"a Type of 65536", []api.Tag{{Type: 65536}}, "", api.ErrArg},
		{"a Type of 65537", []api.Tag{{Type: 65537}}, "", api.ErrArg},
		{"a Type of -1", []api.Tag{{Type: -1}}, "", api.ErrArg},
		{"the least Type", []api.Tag{{Type: math.MinInt}}, "", api.ErrArg},
		{"the greatest Type", []api.Tag{{Type: math.MaxInt}}, "", api.ErrArg},
		{"a good one, a bad one", []api.Tag{{Type: 1}, bad}, "", api.ErrArg},
		{"20", bare(20), strings.Repeat("\x01\x01\x00\x00", 20), api.OK},
		{"21", bare(21), "", api.ErrLong},
		{"1000", bare(1000), "", api.ErrLong},
		{"21, all bad", make([]api.Tag, 21), "", api.ErrLong},
		{"20, all bad", make([]api.Tag, 20), "", api.ErrArg},
		{"one that fills", []api.Tag{long(mostRoom - 4)}, "\x00\x01\x05\xd2" + some(mostRoom-4), api.OK},
		{"one too long", []api.Tag{long(mostRoom - 3)}, "", api.ErrLong},
		{"a Value of 65536 bytes", []api.Tag{long(65536)}, "", api.ErrLong},
		{"two that fill", []api.Tag{long(700), long(786)}, "\x00\x01\x02\xbc" + some(700) + "\x00\x01\x03\x12" + some(786), api.OK},
		{"two too long", []api.Tag{long(700), long(787)}, "", api.ErrLong},
		{"one that fills, one without a value", []api.Tag{long(mostRoom - 4), {Type: 5}}, "", api.ErrLong},
		{"too long, then bad", []api.Tag{huge, bad}, "", api.ErrArg}, // every Type is looked at ahead of the bytes
		{"bad, then too long", []api.Tag{bad, huge}, "", api.ErrArg},
	} {
		if got, err := PutTags(c.l); got != c.want || err != c.err {
			t.Errorf("PutTags of %s = %q, %d, not %q, %d", c.what, got, err, c.want, c.err)
		}
	}
}

func TestP502GetTags(t *testing.T) {
	bare := func(n int) string { return strings.Repeat("\x01\x01\x00\x00", n) }
	tags := func(n int) []api.Tag { return slices.Repeat([]api.Tag{{Type: api.TagService}}, n) }
	for _, c := range []struct {
		b    string
		want []api.Tag
		err  api.Errno
	}{
		{"", nil, api.OK},
		{"\x01\x01\x00", nil, api.ErrShort},
		{"\x00\x00xyz", nil, api.OK},
		{"\x00\x00", nil, api.OK},
		{"\x00\x00\xff\xff", nil, api.OK},
		{"\x00", nil, api.ErrShort},
		{"\x01", nil, api.ErrShort},
		{"\x01\x01", nil, api.ErrShort},
		{"\x00\x01", nil, api.ErrShort},
		{"\x01\x00", nil, api.ErrShort},
		{"\x00\x01\x00\x00", []api.Tag{{Type: 1}}, api.OK},
		{"\x01\x00\x00\x00", []api.Tag{{Type: 256}}, api.OK},
		{"\xff\xff\x00\x01z", []api.Tag{{Type: 65535, Value: "z"}}, api.OK},
		{"\x01\x01\x00\x02a", nil, api.ErrShort},
		{"\x01\x01\xff\xff" + some(65534), nil, api.ErrShort},
		{"\x01\x01\xff\xff" + some(65535), []api.Tag{{Type: 0x0101, Value: some(65535)}}, api.OK}, // no bound but the bytes
		{"\x01\x01\x00\x02ab\x01\x03\x00\x00", []api.Tag{{Type: 0x0101, Value: "ab"}, {Type: 0x0103}}, api.OK},
		{"\x01\x01\x00\x02ab\x00\x00\x01\x03\x00\x00", []api.Tag{{Type: 0x0101, Value: "ab"}}, api.OK},
		{"\x01\x01\x00\x02ab\x00\x00\x01", []api.Tag{{Type: 0x0101, Value: "ab"}}, api.OK},
		{"\x01\x01\x00\x02\x00\x00\x01\x03\x00\x00", []api.Tag{{Type: 0x0101, Value: "\x00\x00"}, {Type: 0x0103}}, api.OK},
		{"\x01\x01\x00\x02ab\x01", nil, api.ErrShort},
		{"\x01\x01\x00\x02ab\x00", nil, api.ErrShort},
		{bare(20), tags(20), api.OK},
		{bare(20) + "\x00\x00", tags(20), api.OK},
		{bare(20) + "\x00\x00" + bare(5), tags(20), api.OK},
		{bare(21), nil, api.ErrLong},
		{bare(21) + "\x00\x00", nil, api.ErrLong},
		{bare(400), nil, api.ErrLong},
		{bare(20) + "\x01", nil, api.ErrShort},
		{bare(20) + "\x01\x01\x00\x01", nil, api.ErrShort}, // the tag that would be too many is not whole
		{bare(21) + "\x01", nil, api.ErrLong},              // from the front on: what is behind is not looked at
	} {
		if got, err := GetTags(c.b); !slices.Equal(got, c.want) || err != c.err {
			t.Errorf("GetTags of %.40q (%d bytes) = %v, %d, not %v, %d", c.b, len(c.b), got, err, c.want, c.err)
		}
	}
}

func TestP502CutEverywhere(t *testing.T) {
	l := []api.Tag{{Type: api.TagAc, Value: "ac"}, {Type: api.TagService}, {Type: api.TagUniq, Value: "\x00\x00u"}}
	b := "\x01\x02\x00\x02ac" + "\x01\x01\x00\x00" + "\x01\x03\x00\x03\x00\x00u"
	whole := map[int]int{0: 0, 6: 1, 10: 2, 17: 3} // how many tags end just there
	for i := range len(b) + 1 {
		got, err := GetTags(b[:i])
		n, good := whole[i]
		if good && (!slices.Equal(got, l[:n]) || err != api.OK) {
			t.Errorf("GetTags of the first %d bytes = %v, %d, not %v", i, got, err, l[:n])
		}
		if !good && (len(got) != 0 || err != api.ErrShort) {
			t.Errorf("GetTags of the first %d bytes = %v, %d, not %d", i, got, err, api.ErrShort)
		}
	}
}

func TestP502NothingIsShared(t *testing.T) {
	room := []api.Tag{{Type: 1, Value: "a"}, {Type: 2, Value: "b"}, {Type: 3, Value: "c"}}
	if b, err := PutTags(room[:2]); b != "\x00\x01\x00\x01a\x00\x02\x00\x01b" || err != api.OK {
		t.Errorf("PutTags = %q, %d", b, err)
	}
	if !slices.Equal(room, []api.Tag{{Type: 1, Value: "a"}, {Type: 2, Value: "b"}, {Type: 3, Value: "c"}}) {
		t.Errorf("PutTags changed what it was given: %v", room)
	}
	b := "\x00\x01\x00\x01a"
	one, _ := GetTags(b)
	if len(one) != 1 {
		t.Fatalf("GetTags = %v", one)
	}
	one[0].Value = "z"
	if two, err := GetTags(b); !slices.Equal(two, []api.Tag{{Type: 1, Value: "a"}}) || err != api.OK {
		t.Errorf("GetTags again = %v, %d", two, err)
	}
}

func TestP503Find(t *testing.T) {
	l := []api.Tag{{Type: 0x0101, Value: "a"}, {Type: 0x0103}, {Type: 7, Value: "x"}, {Type: 0x0101, Value: "b"}, {Type: 0x0103, Value: "late"}, {Type: 0x0101, Value: "a"}, {Type: 0, Value: "nought"}, {Type: -5, Value: "below"}}
	for _, c := range []struct {
		kind int
		want string
		n    int
	}{
		{0x0101, "a", 3},
		{0x0103, "", 2}, // the first one has no value, though a later one has
		{7, "x", 1},
		{0, "nought", 1},
		{-5, "below", 1},
		{9, "", 0},
		{0x0102, "", 0},
		{65536 + 7, "", 0},
		{math.MaxInt, "", 0},
		{math.MinInt, "", 0},
	} {
		if got, n := Find(l, c.kind); got != c.want || n != c.n {
			t.Errorf("Find(%d) = %q, %d, not %q, %d", c.kind, got, n, c.want, c.n)
		}
	}
	if got, n := Find(nil, 0); got != "" || n != 0 {
		t.Errorf("Find in nothing = %q, %d", got, n)
	}
	if got, n := Find(slices.Repeat([]api.Tag{{Type: 1, Value: "v"}}, 50), 1); got != "v" || n != 50 {
		t.Errorf("Find among more than MaxTags = %q, %d", got, n)
	}
}

func TestP503Same(t *testing.T) {
	a, b, c := api.Tag{Type: 1, Value: "a"}, api.Tag{Type: 2, Value: "b"}, api.Tag{Type: 3}
	for _, x := range []struct {
		a, b []api.Tag
		want bool
	}{
		{nil, nil, true},
		{nil, []api.Tag{}, true},
		{[]api.Tag{}, nil, true},
		{nil, []api.Tag{{}}, false},
		{[]api.Tag{{}}, []api.Tag{{}}, true},
		{[]api.Tag{a, b, c}, []api.Tag{a, b, c}, true},
		{[]api.Tag{a, b, c}, []api.Tag{b, a, c}, false},
		{[]api.Tag{a, b, c}, []api.Tag{a, c, b}, false},
		{[]api.Tag{a, b, c}, []api.Tag{a, b}, false},
		{[]api.Tag{a, b, c}, []api.Tag{b, c}, false},
		{[]api.Tag{a, b}, []api.Tag{a, b, c}, false},
		{[]api.Tag{a, a}, []api.Tag{a}, false},
		{[]api.Tag{a, b, c}, []api.Tag{a, b, {Type: 3, Value: "\x00"}}, false},
		{[]api.Tag{a, b, c}, []api.Tag{{Type: 1, Value: "A"}, b, c}, false},
		{[]api.Tag{a, b, c}, []api.Tag{a, {Type: 4, Value: "b"}, c}, false},
		{[]api.Tag{{Type: 1, Value: "ab"}, {Type: 1}}, []api.Tag{{Type: 1, Value: "a"}, {Type: 1, Value: "b"}}, false},
	} {
		if got := Same(x.a, x.b); got != x.want {
			t.Errorf("Same(%v, %v) = %v", x.a, x.b, got)
		}
		if got := Same(x.b, x.a); got != x.want {
			t.Errorf("Same(%v, %v) = %v", x.b, x.a, got)
		}
	}
}

func TestP504Tags(t *testing.T) {
	hold := func(l []api.Tag) {
		b, err := PutTags(l)
		if err != api.OK {
			t.Errorf("PutTags(%v) = %d", l, err)
			return
		}
		for _, end := range []string{"", "\x00\x00", "\x00\x00\x01", "\x00\x00\x01\x01\x00\x00"} {
			if got, err := GetTags(b + end); !Same(got, l) || err != api.OK {
				t.Errorf("GetTags of PutTags(%v), with %q behind = %v, %d", l, end, got, err)
			}
		}
	}
	for kind := 1; kind < 65536; kind++ {
		hold([]api.Tag{{Type: kind, Value: "v"}})
	}
	for n := range mostRoom - 3 {
		hold([]api.Tag{{Type: api.TagCookie, Value: some(n)}})
	}
	r := rand.New(rand.NewSource(5))
	for range 3000 {
		l := make([]api.Tag, r.Intn(21))
		for i := range l {
			l[i] = api.Tag{Type: 1 + r.Intn(65535), Value: some(r.Intn(70))}
		}
		hold(l)
	}
}

// walk tells what GetTags should, by a second way: by numbers of whole bytes, not by what is left.
func walk(b string) ([]api.Tag, api.Errno) {
	at := func(i int) int { return int(b[i])*256 + int(b[i+1]) }
	var l []api.Tag
	i := 0
	for i != len(b) {
		switch left := len(b) - i; {
		case left == 1:
			return nil, api.ErrShort
		case at(i) == 0:
			return l, api.OK
		case left < 4, left < 4+at(i+2):
			return nil, api.ErrShort
		case len(l) > 19:
			return nil, api.ErrLong
		}
		l = append(l, api.Tag{Type: at(i), Value: b[i+4 : i+4+at(i+2)]})
		i += 4 + at(i+2)
	}
	return l, api.OK
}

func TestP502AnyBytes(t *testing.T) {
	r := rand.New(rand.NewSource(502))
	seen := map[api.Errno]int{}
	for range 60000 {
		b := make([]byte, r.Intn(120))
		for i := range b {
			b[i] = byte(r.Intn(1 + r.Intn(3))) // small numbers, so that tags, ends and cuts come about
			if r.Intn(100) == 0 {
				b[i] = byte(r.Intn(256))
			}
		}
		for i := range r.Intn(1 + len(b)/4) {
			copy(b[4*i:], []byte{1, byte(r.Intn(3)), 0, 0}) // and some begin with many tags
		}
		want, werr := walk(string(b))
		got, err := GetTags(string(b))
		if !slices.Equal(got, want) || err != werr {
			t.Fatalf("GetTags(%q) = %v, %d, not %v, %d", b, got, err, want, werr)
		}
		if err != api.OK && got != nil {
			t.Fatalf("GetTags(%q) = %v beside %d", b, got, err)
		}
		seen[err]++
	}
	for _, e := range []api.Errno{api.OK, api.ErrShort, api.ErrLong} {
		if seen[e] == 0 {
			t.Errorf("no bytes were answered by %d", e)
		}
	}
}
