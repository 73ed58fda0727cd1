package opts

import (
	"math"
	"math/rand/v2"
	"reflect"
	"slices"
	"strings"
	"testing"

	"tollgate/api"
)

// P1002, and of P1004 what has to do with packets.

const mostRoom = 1488 // MaxData - 12, written out so that a slip in the constant shows

// alike tells whether packets are the same; nil and an empty list mean the same.
func alike(a, b api.Packet) bool {
	return a.Code == b.Code && a.Id == b.Id && a.Data == b.Data && slices.Equal(a.Options, b.Options)
}

// isZero tells whether a packet is what stands beside an error.
func isZero(p api.Packet) bool { return reflect.ValueOf(p).IsZero() }

// laid tells a packet's bytes by another way than the program's.
func laid(code, id int, behind string) string {
	n := len(behind) + 4
	return string([]byte{byte(code), byte(id), byte(n / 256), byte(n % 256)}) + behind
}

// filled tells options whose bytes are n, in Values as long as may be.
func filled(n int) ([]api.Option, string) {
	var l []api.Option
	b := ""
	for n > 0 {
		size := min(n, 255)
		if n-size == 1 {
			size-- // one byte alone has no room for an option
		}
		l = append(l, api.Option{Type: 9, Value: some(size - 2)})
		b += "\x09" + string([]byte{byte(size)}) + some(size-2)
		n -= size
	}
	return l, b
}

func TestP1002Example(t *testing.T) {
	got, err := Put(api.Packet{Code: api.ConfReq, Id: 1, Options: []api.Option{{Type: 1, Value: "\x05\xdc"}}})
	want := string([]byte{1, 1, 0, 8, 1, 4, 5, 220})
	if got != want || err != api.OK {
		t.Errorf("Put = %q, %d, not %q", got, err, want)
	}
}

func TestP1002Put(t *testing.T) {
	one := []api.Option{{Type: 1}}
	long := some(mostRoom + 1)
	for _, c := range []struct {
		what string
		p    api.Packet
		want string
		err  api.Errno
	}{
		{"zero", api.Packet{}, "\x00\x00\x00\x04", api.OK},
		{"255, 255", api.Packet{Code: 255, Id: 255}, "\xff\xff\x00\x04", api.OK},
		{"a request of nothing", api.Packet{Code: api.ConfReq, Id: 7}, "\x01\x07\x00\x04", api.OK},
		{"a request of no list", api.Packet{Code: api.ConfReq, Id: 7, Options: []api.Option{}}, "\x01\x07\x00\x04", api.OK},
		{"an end with an empty list", api.Packet{Code: api.TermReq, Id: 7, Options: []api.Option{}, Data: "x"}, "\x05\x07\x00\x05x", api.OK},
		{"two options", api.Packet{Code: api.ConfNak, Id: 128, Options: []api.Option{{Type: 3, Value: "ab"}, {Type: 255}}}, "\x03\x80\x00\x0a\x03\x04ab\xff\x02", api.OK},
		{"an echo", api.Packet{Code: api.EchoReq, Id: 2, Data: "\x01\x02data"}, "\x09\x02\x00\x0a\x01\x02data", api.OK},
		{"252 bytes", api.Packet{Code: 9, Data: some(252)}, "\x09\x00\x01\x00" + some(252), api.OK},
		{"251 bytes", api.Packet{Code: 9, Data: some(251)}, "\x09\x00\x00\xff" + some(251), api.OK},
		{"all room", api.Packet{Code: 9, Data: some(mostRoom)}, "\x09\x00\x05\xd4" + some(mostRoom), api.OK},
		{"more than all room", api.Packet{Code: 9, Data: long}, "", api.ErrLong},
		{"far more", api.Packet{Code: 9, Data: some(65536 + 4)}, "", api.ErrLong},
		{"Code -1", api.Packet{Code: -1}, "", api.ErrArg},
		{"Code 256", api.Packet{Code: 256}, "", api.ErrArg},
		{"Code 257, like ConfReq in its low bits", api.Packet{Code: 257, Options: one}, "", api.ErrArg},
		{"Code -255, like ConfReq in its low bits", api.Packet{Code: -255, Options: one}, "", api.ErrArg},
		{"the least Code", api.Packet{Code: math.MinInt}, "", api.ErrArg},
		{"the greatest Code", api.Packet{Code: math.MaxInt}, "", api.ErrArg},
		{"Id -1", api.Packet{Code: 9, Id: -1}, "", api.ErrArg},
		{"Id 256", api.Packet{Code: 9, Id: 256}, "", api.ErrArg},
		{"the least Id", api.Packet{Code: 9, Id: math.MinInt}, "", api.ErrArg},
		{"the greatest Id", api.Packet{Code: 9, Id: math.MaxInt}, "", api.ErrArg},
		{"Id -1 of a request", api.Packet{Code: 1, Id: -1, Options: one}, "", api.ErrArg},
		{"Id 256 of a request", api.Packet{Code: 1, Id: 256, Options: one}, "", api.ErrArg},
		{"Id 255 of a request", api.Packet{Code: 1, Id: 255, Options: one}, "\x01\xff\x00\x06\x01\x02", api.OK},
		{"Code 256 and too long", api.Packet{Code: 256, Data: long}, "", api.ErrArg},
		{"Id -1 and too long", api.Packet{Code: 9, Id: -1, Data: long}, "", api.ErrArg},
		{"Options and too long", api.Packet{Code: 9, Options: one, Data: long}, "", api.ErrArg},
		{"Data of a request, too long", api.Packet{Code: 1, Data: long}, "", api.ErrArg},
		{"Data of a request, too many options", api.Packet{Code: 1, Data: "x", Options: bare(31)}, "", api.ErrArg},
		{"Id -1, too many options", api.Packet{Code: 1, Id: -1, Options: bare(31)}, "", api.ErrArg},
		{"too many options of another Code", api.Packet{Code: 5, Options: bare(31)}, "", api.ErrArg},
		{"30 options", api.Packet{Code: 1, Options: bare(30)}, "\x01\x00\x00\x40" + strings.Repeat("\x01\x02", 30), api.OK},
		{"31 options", api.Packet{Code: 1, Options: bare(31)}, "", api.ErrLong},
		{"31 options that can't be", api.Packet{Code: 1, Options: make([]api.Option, 31)}, "", api.ErrLong},
		{"an option that can't be", api.Packet{Code: 1, Options: make([]api.Option, 1)}, "", api.ErrArg},
		{"an option that can't be, and too long", api.Packet{Code: 1, Options: append(slices.Repeat([]api.Option{{Type: 1, Value: some(253)}}, 20), api.Option{})}, "", api.ErrArg},
		{"a Value too long for an option", api.Packet{Code: 4, Options: []api.Option{{Type: 1, Value: some(254)}}}, "", api.ErrArg},
	} {
		if got, err := Put(c.p); got != c.want || err != c.err {
			t.Errorf("Put of %s = %q, %d, not %q, %d", c.what, got, err, c.want, c.err)
		}
	}
}

// TestP1002EveryCode has options, data and both at each Code.
func TestP1002EveryCode(t *testing.T) {
	one := []api.Option{{Type: 6, Value: "o"}}
	for code := -300; code <= 600; code++ {
		isCode := code >= 0 && code < 256
		asks := code == 1 || code == 2 || code == 3 || code == 4
		hold := func(what string, p api.Packet, put func(api.Packet) (string, api.Errno), good bool, behind string) {
			got, err := put(p)
			if good && (got != laid(code, 7, behind) || err != api.OK) {
				t.Errorf("%s at Code %d = %q, %d", what, code, got, err)
			}
			if !good && (got != "" || err != api.ErrArg) {
				t.Errorf("%s at Code %d = %q, %d, not %d", what, code, got, err, api.ErrArg)
			}
		}
		none := api.Packet{Code: code, Id: 7}
		options := api.Packet{Code: code, Id: 7, Options: one}
		data := api.Packet{Code: code, Id: 7, Data: "d"}
		both := api.Packet{Code: code, Id: 7, Options: one, Data: "d"}
		hold("Put of neither", none, Put, isCode, "")
		hold("Put of options", options, Put, asks, "\x06\x03o")
		hold("Put of data", data, Put, isCode && !asks, "d")
		hold("Put of both", both, Put, false, "")
		hold("PutData of neither", none, PutData, isCode, "")
		hold("PutData of options", options, PutData, false, "")
		hold("PutData of data", data, PutData, isCode, "d")
		hold("PutData of both", both, PutData, false, "")
	}
}

func TestP1002Room(t *testing.T) {
	for code := range 256 {
		for _, n := range []int{mostRoom - 1, mostRoom, mostRoom + 1, mostRoom + 4, mostRoom + 12} {
			p, behind := api.Packet{Code: code, Id: 3, Data: some(n)}, some(n)
			q := p
			if code >= api.ConfReq && code <= api.ConfRej {
				q = api.Packet{Code: code, Id: 3}
				q.Options, behind = filled(n)
			}
			want, wdata, werr := laid(code, 3, behind), laid(code, 3, some(n)), api.OK
			if n > mostRoom {
				want, wdata, werr = "", "", api.ErrLong
			}
			if got, err := Put(q); got != want || err != werr {
				t.Errorf("Put of Code %d with %d bytes = %d bytes, %d, not %d, %d", code, n, len(got), err, len(want), werr)
			}
			if got, err := PutData(p); got != wdata || err != werr {
				t.Errorf("PutData of Code %d with %d bytes = %d bytes, %d, not %d, %d", code, n, len(got), err, len(wdata), werr)
			}
		}
	}
}

// TestP1002PutData has the edges of Put, for every Code alike.
func TestP1002PutData(t *testing.T) {
	for _, code := range []int{0, 1, 2, 3, 4, 5, 255} {
		for _, c := range []struct {
			what string
			p    api.Packet
			want string
			err  api.Errno
		}{
			{"nothing", api.Packet{Code: code}, laid(code, 0, ""), api.OK},
			{"an empty list", api.Packet{Code: code, Options: []api.Option{}}, laid(code, 0, ""), api.OK},
			{"Id 255", api.Packet{Code: code, Id: 255, Data: "d"}, laid(code, 255, "d"), api.OK},
			{"Id -1", api.Packet{Code: code, Id: -1}, "", api.ErrArg},
			{"Id 256", api.Packet{Code: code, Id: 256}, "", api.ErrArg},
			{"the least Id", api.Packet{Code: code, Id: math.MinInt}, "", api.ErrArg},
			{"Code 256 more", api.Packet{Code: code + 256, Data: "d"}, "", api.ErrArg},
			{"Code 256 less", api.Packet{Code: code - 256, Data: "d"}, "", api.ErrArg},
			{"too many options", api.Packet{Code: code, Options: bare(31)}, "", api.ErrArg},
			{"an option that can't be", api.Packet{Code: code, Options: make([]api.Option, 1)}, "", api.ErrArg},
			{"options and too long", api.Packet{Code: code, Options: bare(1), Data: some(mostRoom + 1)}, "", api.ErrArg},
			{"Id 256 and too long", api.Packet{Code: code, Id: 256, Data: some(mostRoom + 1)}, "", api.ErrArg},
			{"what would be options", api.Packet{Code: code, Data: "\x01\x01"}, laid(code, 0, "\x01\x01"), api.OK},
		} {
			if got, err := PutData(c.p); got != c.want || err != c.err {
				t.Errorf("PutData of %s at Code %d = %q, %d, not %q, %d", c.what, code, got, err, c.want, c.err)
			}
		}
	}
}

// TestP1002Get has what Get and GetData tell alike: the errors of the head.
func TestP1002Get(t *testing.T) {
	full := "\x09\x02\x05\xd4" + some(mostRoom)
	for _, c := range []struct {
		b    string
		want api.Packet
		err  api.Errno
	}{
		{"", api.Packet{}, api.ErrShort},
		{"\x09", api.Packet{}, api.ErrShort},
		{"\x09\x02", api.Packet{}, api.ErrShort},
		{"\x09\x02\x00", api.Packet{}, api.ErrShort},
		{"\x09\x02\xff", api.Packet{}, api.ErrShort},
		{"\x09\x02\x00\x00", api.Packet{}, api.ErrForm},
		{"\x09\x02\x00\x01", api.Packet{}, api.ErrForm},
		{"\x09\x02\x00\x03", api.Packet{}, api.ErrForm},
		{"\x09\x02\x00\x03abcdef", api.Packet{}, api.ErrForm},
		{"\x09\x02\x00\x04", api.Packet{Code: 9, Id: 2}, api.OK},
		{"\x00\x00\x00\x04", api.Packet{}, api.OK},
		{"\xff\xff\x00\x04", api.Packet{Code: 255, Id: 255}, api.OK},
		{"\x09\x02\x00\x04abc", api.Packet{Code: 9, Id: 2}, api.OK},
		{"\x09\x02\x00\x05", api.Packet{}, api.ErrShort},
		{"\x09\x02\x00\x05a", api.Packet{Code: 9, Id: 2, Data: "a"}, api.OK},
		{"\x05\x02\x00\x06a\xff\x00", api.Packet{Code: 5, Id: 2, Data: "a\xff"}, api.OK},
		{"\x00\x80\x00\x05\x00", api.Packet{Id: 128, Data: "\x00"}, api.OK},
		{"\x09\x02\x01\x00" + some(252), api.Packet{Code: 9, Id: 2, Data: some(252)}, api.OK},
		{"\x09\x02\x01\x00" + some(251), api.Packet{}, api.ErrShort},
		{full, api.Packet{Code: 9, Id: 2, Data: some(mostRoom)}, api.OK},
		{full[:len(full)-1], api.Packet{}, api.ErrShort},
		{"\x09\x02\x05\xd4", api.Packet{}, api.ErrShort},
		{full + some(3000), api.Packet{Code: 9, Id: 2, Data: some(mostRoom)}, api.OK},
		{"\x09\x02\x05\xd5" + some(mostRoom+1), api.Packet{}, api.ErrLong},
		{"\x09\x02\x05\xd5", api.Packet{}, api.ErrLong}, // too long is looked for ahead of too few bytes
		{"\x01\x02\x05\xd5", api.Packet{}, api.ErrLong},
		{"\x01\x02\x00\x03", api.Packet{}, api.ErrForm},
		{"\x01\x02\x00\x05", api.Packet{}, api.ErrShort},
		{"\x09\x02\xff\xff" + some(65531), api.Packet{}, api.ErrLong},
	} {
		got, err := Get(c.b)
		if !alike(got, c.want) || err != c.err || err != api.OK && !isZero(got) {
			t.Errorf("Get of %.20q (%d bytes) = %v, %d, not %v, %d", c.b, len(c.b), got, err, c.want, c.err)
		}
		got, err = GetData(c.b)
		if !alike(got, c.want) || err != c.err || err != api.OK && !isZero(got) {
			t.Errorf("GetData of %.20q (%d bytes) = %v, %d, not %v, %d", c.b, len(c.b), got, err, c.want, c.err)
		}
	}
}

// TestP1002GetEveryCode has options, what is none, and both with filling behind, at each Code.
func TestP1002GetEveryCode(t *testing.T) {
	for code := range 256 {
		asks := code == 1 || code == 2 || code == 3 || code == 4
		for _, c := range []struct {
			behind string
			want   []api.Option
			err    api.Errno
		}{
			{"", nil, api.OK},
			{"\x06\x03o", []api.Option{{Type: 6, Value: "o"}}, api.OK},
			{"\x06\x03o\x06\x02", []api.Option{{Type: 6, Value: "o"}, {Type: 6}}, api.OK},
			{"\x06", nil, api.ErrShort},
			{"\x06\x03", nil, api.ErrShort}, // the filling behind is no part of it
			{"\x06\x03o\x01", nil, api.ErrShort},
			{"\x06\x01", nil, api.ErrForm},
			{"\x00\x02", nil, api.ErrForm},
			{strings.Repeat("\x01\x02", 30), bare(30), api.OK},
			{strings.Repeat("\x01\x02", 31), nil, api.ErrLong},
		} {
			for _, fill := range []string{"", "\x00", "xyz", "\x01\x02", some(2000)} {
				b := laid(code, 9, c.behind) + fill
				data := api.Packet{Code: code, Id: 9, Data: c.behind}
				if got, err := GetData(b); !alike(got, data) || err != api.OK {
					t.Errorf("GetData of %.30q = %v, %d", b, got, err)
				}
				want, werr := data, api.OK
				if asks {
					want, werr = api.Packet{Code: code, Id: 9, Options: c.want}, c.err
				}
				if werr != api.OK {
					want = api.Packet{}
				}
				if got, err := Get(b); !alike(got, want) || err != werr || err != api.OK && !isZero(got) {
					t.Errorf("Get of %.30q = %v, %d, not %v, %d", b, got, err, want, werr)
				}
			}
		}
	}
}

func TestP1002CutEverywhere(t *testing.T) {
	for _, b := range []string{"\x09\x02\x00\x09hello", "\x01\x02\x00\x0a\x01\x04ab\x02\x02"} {
		for i := range len(b) {
			if got, err := Get(b[:i]); !isZero(got) || err != api.ErrShort {
				t.Errorf("Get of %d bytes of %q = %v, %d", i, b, got, err)
			}
			if got, err := GetData(b[:i]); !isZero(got) || err != api.ErrShort {
				t.Errorf("GetData of %d bytes of %q = %v, %d", i, b, got, err)
			}
		}
	}
}

func TestP1002EveryLength(t *testing.T) {
	room := some(70000)
	for n := range 65536 {
		head := "\x0a\x03" + string([]byte{byte(n / 256), byte(n % 256)})
		want, werr := api.Packet{}, api.OK
		switch {
		case n < 4:
			werr = api.ErrForm
		case n > 1492:
			werr = api.ErrLong
		default:
			want = api.Packet{Code: 10, Id: 3, Data: room[:n-4]}
		}
		for _, get := range []func(string) (api.Packet, api.Errno){Get, GetData} {
			if got, err := get(head + room[:2000]); !alike(got, want) || err != werr {
				t.Fatalf("a length of %d: %d bytes, %d, not %d, %d", n, len(got.Data), err, len(want.Data), werr)
			}
		}
	}
}

func TestP1002NothingIsShared(t *testing.T) {
	room := []api.Option{{Type: 1, Value: "a"}, {Type: 2, Value: "b"}, {Type: 3, Value: "c"}}
	kept := slices.Clone(room)
	p := api.Packet{Code: api.ConfAck, Id: 5, Options: room[:2]}
	for range 2 {
		if b, err := Put(p); b != "\x02\x05\x00\x0a\x01\x03a\x02\x03b" || err != api.OK {
			t.Errorf("Put = %q, %d", b, err)
		}
	}
	if _, err := PutData(p); err != api.ErrArg {
		t.Errorf("PutData with Options = %d", err)
	}
	if !slices.Equal(room, kept) {
		t.Errorf("what was handed in is changed: %v", room)
	}
	b := "\x02\x05\x00\x0a\x01\x03a\x02\x03b"
	want := api.Packet{Code: api.ConfAck, Id: 5, Options: kept[:2]}
	for range 3 {
		got, err := Get(b)
		if !alike(got, want) || err != api.OK {
			t.Errorf("Get = %v, %d", got, err)
		}
		spoil(got.Options)
	}
}

func TestP1004Packet(t *testing.T) {
	fillings := []string{"", "\x00", "\x01\x02\x00\x04", some(40), strings.Repeat("\xff", 3000)}
	hold := func(p api.Packet, put func(api.Packet) (string, api.Errno), get func(string) (api.Packet, api.Errno)) {
		b, err := put(p)
		if err != api.OK {
			t.Errorf("put of Code %d, Id %d, %d options, %d bytes = %d", p.Code, p.Id, len(p.Options), len(p.Data), err)
			return
		}
		for _, f := range fillings {
			if got, err := get(b + f); !alike(got, p) || err != api.OK {
				t.Errorf("get of put of Code %d, Id %d, with %d bytes behind = %v, %d", p.Code, p.Id, len(f), got, err)
			}
		}
	}
	r := rand.New(rand.NewPCG(10, 40))
	for code := range 256 {
		for range 12 {
			p := api.Packet{Code: code, Id: r.IntN(256), Data: some(r.IntN(mostRoom + 1))}
			hold(p, PutData, GetData)
			if code >= api.ConfReq && code <= api.ConfRej {
				p.Data, p.Options = "", anyOptions(r, 31, 48) // at most 30 of 49 bytes: all room has 1488
			}
			hold(p, Put, Get)
		}
	}
	for id := range 256 {
		hold(api.Packet{Code: api.ConfReq, Id: id, Options: bare(1)}, Put, Get)
		hold(api.Packet{Code: api.ConfReq, Id: id, Data: "d"}, PutData, GetData)
	}
	for n := range mostRoom + 1 {
		hold(api.Packet{Code: api.EchoRep, Id: 1, Data: some(n)}, Put, Get)
		if n != 1 {
			l, _ := filled(n)
			hold(api.Packet{Code: api.ConfRej, Id: 1, Options: l}, Put, Get)
		}
	}
}

// TestP1004AnyBytes has that what any bytes are taken for is put as just these bytes, less the filling.
func TestP1004AnyBytes(t *testing.T) {
	r := rand.New(rand.NewPCG(10, 41))
	seen := map[api.Errno]int{}
	for range 60000 {
		b := make([]byte, r.IntN(40))
		for i := range b {
			b[i] = byte(r.IntN(5))
			if r.IntN(20) == 0 {
				b[i] = byte(r.IntN(256))
			}
		}
		if len(b) >= 4 && r.IntN(3) > 0 {
			b[2], b[3] = 0, byte(4+r.IntN(len(b)-2))
		}
		if p, err := Get(string(b)); err == api.OK {
			if back, err := Put(p); back != string(b[:int(b[3])]) || err != api.OK {
				t.Fatalf("Put of Get(%q) = %q, %d", b, back, err)
			}
		} else if !isZero(p) {
			t.Fatalf("Get(%q) = %v beside %d", b, p, err)
		} else {
			seen[err]++
		}
		if p, err := GetData(string(b)); err == api.OK {
			if back, err := PutData(p); back != string(b[:int(b[3])]) || err != api.OK {
				t.Fatalf("PutData of GetData(%q) = %q, %d", b, back, err)
			}
		}
	}
	for _, e := range []api.Errno{api.ErrShort, api.ErrForm, api.ErrLong} {
		if seen[e] == 0 {
			t.Errorf("no bytes were answered by %d", e)
		}
	}
}
