package msg

import (
	"strings"
	"testing"

	"tollgate/api"
	"tollgate/byhand"
)

// P1902.

func TestP1902PutLoad(t *testing.T) {
	for _, n := range []int{0, 1, 2, 247, 248, 255, 256, 1459, 1460} {
		data := some(n)
		holdPutLoad(t, "data", api.Load{Tunnel: 258, Session: 772, Data: data}, load(258, 772, data), api.OK)
		holdPutLoad(t, "numbered data", api.Load{Tunnel: 258, Session: 772, Seq: true, Ns: 1286, Nr: 1800, Data: data}, seqLoad(258, 772, 1286, 1800, data), api.OK)
		holdPutLoad(t, "numbered by noughts", api.Load{Seq: true, Data: data}, seqLoad(0, 0, 0, 0, data), api.OK)
	}
	for _, n := range []int{1461, 1462, 1468, 1472, 1500, 65535, 65536, 70000} {
		holdPutLoad(t, "too long", api.Load{Tunnel: 1, Session: 2, Data: some(n)}, "", api.ErrLong)
		holdPutLoad(t, "too long, numbered", api.Load{Tunnel: 1, Session: 2, Seq: true, Ns: 3, Nr: 4, Data: some(n)}, "", api.ErrLong)
	}
	holdPutLoad(t, "nothing", api.Load{}, string([]byte{64, 2, 0, 8, 0, 0, 0, 0}), api.OK)
	holdPutLoad(t, "nothing, numbered", api.Load{Seq: true}, string([]byte{72, 2, 0, 12, 0, 0, 0, 0, 0, 0, 0, 0}), api.OK)
}

// TestP1902PutLoadWords has each number at its edges, and Data too long besides.
func TestP1902PutLoadWords(t *testing.T) {
	for _, v := range edges() {
		for i, n := range [4][4]int{{v, 2, 3, 4}, {1, v, 3, 4}, {1, 2, v, 4}, {1, 2, 3, v}} {
			want, err, long := seqLoad(n[0], n[1], n[2], n[3], "data"), api.OK, api.ErrLong
			if !fits(v) {
				want, err, long = "", api.ErrArg, api.ErrArg
			}
			l := api.Load{Tunnel: n[0], Session: n[1], Seq: true, Ns: n[2], Nr: n[3], Data: "data"}
			holdPutLoad(t, "numbered", l, want, err)
			l.Data = some(1461)
			holdPutLoad(t, "numbered, too long", l, "", long)
			l.Seq = false
			holdPutLoad(t, "not numbered, but numbers", l, "", api.ErrArg)
			if t.Failed() {
				t.Fatalf("of %d at place %d", v, i)
			}
		}
		for i, n := range [2][2]int{{v, 2}, {1, v}} {
			want, err, long := load(n[0], n[1], "data"), api.OK, api.ErrLong
			if !fits(v) {
				want, err, long = "", api.ErrArg, api.ErrArg
			}
			l := api.Load{Tunnel: n[0], Session: n[1], Data: "data"}
			holdPutLoad(t, "not numbered", l, want, err)
			l.Data = some(1461)
			holdPutLoad(t, "not numbered, too long", l, "", long)
			if t.Failed() {
				t.Fatalf("of %d at place %d", v, i)
			}
		}
	}
}

// TestP1902PutLoadNumbers has Ns and Nr where they may not be.
func TestP1902PutLoadNumbers(t *testing.T) {
	for _, v := range edges() {
		if v == 0 {
			continue
		}
		for _, l := range []api.Load{{Ns: v}, {Nr: v}, {Ns: v, Nr: v}, {Ns: v, Nr: -v}} {
			l.Tunnel, l.Session = 1, 2
			holdPutLoad(t, "numbers without Seq", l, "", api.ErrArg)
			l.Data = some(1461)
			holdPutLoad(t, "numbers without Seq, too long", l, "", api.ErrArg)
		}
	}
}

func TestP1902GetLoad(t *testing.T) {
	for _, n := range []int{0, 1, 2, 247, 248, 255, 256, 1459, 1460} {
		data := some(n)
		for _, f := range fillings() {
			holdGetLoad(t, "data", load(258, 772, data)+f, api.Load{Tunnel: 258, Session: 772, Data: data}, api.OK)
			holdGetLoad(t, "numbered data", seqLoad(258, 772, 1286, 1800, data)+f, api.Load{Tunnel: 258, Session: 772, Seq: true, Ns: 1286, Nr: 1800, Data: data}, api.OK)
			holdGetLoad(t, "numbered by noughts", seqLoad(0, 0, 0, 0, data)+f, api.Load{Seq: true, Data: data}, api.OK)
		}
	}
	for _, n := range []int{1461, 1462, 1468, 1472, 1500, 65523} {
		for _, f := range fillings() {
			holdGetLoad(t, "too long", load(1, 2, some(n))+f, api.Load{}, api.ErrLong)
			holdGetLoad(t, "too long, numbered", seqLoad(1, 2, 3, 4, some(n))+f, api.Load{}, api.ErrLong)
		}
	}
}

func TestP1902GetLoadWords(t *testing.T) {
	for _, v := range edges() {
		if !fits(v) {
			continue
		}
		holdGetLoad(t, "Tunnel", load(v, 2, "d"), api.Load{Tunnel: v, Session: 2, Data: "d"}, api.OK)
		holdGetLoad(t, "Session", load(1, v, "d"), api.Load{Tunnel: 1, Session: v, Data: "d"}, api.OK)
		holdGetLoad(t, "Tunnel, numbered", seqLoad(v, 2, 3, 4, "d"), api.Load{Tunnel: v, Session: 2, Seq: true, Ns: 3, Nr: 4, Data: "d"}, api.OK)
		holdGetLoad(t, "Session, numbered", seqLoad(1, v, 3, 4, "d"), api.Load{Tunnel: 1, Session: v, Seq: true, Ns: 3, Nr: 4, Data: "d"}, api.OK)
		holdGetLoad(t, "Ns", seqLoad(1, 2, v, 4, "d"), api.Load{Tunnel: 1, Session: 2, Seq: true, Ns: v, Nr: 4, Data: "d"}, api.OK)
		holdGetLoad(t, "Nr", seqLoad(1, 2, 3, v, "d"), api.Load{Tunnel: 1, Session: 2, Seq: true, Ns: 3, Nr: v, Data: "d"}, api.OK)
	}
}

// TestP1902GetLoadFew has 0 to 13 bytes of messages, with each length that they may name.
func TestP1902GetLoadFew(t *testing.T) {
	for n := range 14 {
		for size := range 20 {
			b := says(load(1, 2, "data56"), size)[:n]
			want, err := api.Load{}, api.ErrShort
			switch {
			case n < 8 || size > n:
			case size < 8:
				err = api.ErrForm
			default:
				want, err = api.Load{Tunnel: 1, Session: 2, Data: "data56"[:size-8]}, api.OK
			}
			holdGetLoad(t, "a few bytes", b, want, err)

			b = says(seqLoad(1, 2, 3, 4, "da"), size)[:n]
			want, err = api.Load{}, api.ErrShort
			switch {
			case n < 8 || size > n:
			case size < 12:
				err = api.ErrForm
			default:
				want, err = api.Load{Tunnel: 1, Session: 2, Seq: true, Ns: 3, Nr: 4, Data: "da"[:size-12]}, api.OK
			}
			holdGetLoad(t, "a few bytes, numbered", b, want, err)
			if t.Failed() {
				t.Fatalf("of %d bytes, of the length %d", n, size)
			}
		}
	}
}

// TestP1902GetLoadFirst has each first byte and each second one.
func TestP1902GetLoadFirst(t *testing.T) {
	behind := byhand.Words(14, 1, 2, 3, 4) + "da"
	for v := range 256 {
		for w := range 256 {
			want, err := api.Load{}, api.ErrForm
			switch {
			case w == 2 && v == 64:
				want, err = api.Load{Tunnel: 1, Session: 2, Data: behind[6:]}, api.OK
			case w == 2 && v == 72:
				want, err = api.Load{Tunnel: 1, Session: 2, Seq: true, Ns: 3, Nr: 4, Data: "da"}, api.OK
			}
			holdGetLoad(t, "first bytes", string([]byte{byte(v), byte(w)})+behind, want, err)
			if t.Failed() {
				t.Fatalf("of the bytes %d, %d", v, w)
			}
		}
	}
}

// TestP1902GetLoadLength has each length that there is, with more bytes behind than may be.
func TestP1902GetLoadLength(t *testing.T) {
	data := some(1500)
	for size := range 65536 {
		for _, head := range []int{8, 12} {
			b, want := load(1, 2, data), api.Load{Tunnel: 1, Session: 2}
			if head == 12 {
				b, want = seqLoad(1, 2, 3, 4, data), api.Load{Tunnel: 1, Session: 2, Seq: true, Ns: 3, Nr: 4}
			}
			err := api.OK
			switch {
			case size > len(b):
				want, err = api.Load{}, api.ErrShort
			case size < head:
				want, err = api.Load{}, api.ErrForm
			case size-head > mostBytes:
				want, err = api.Load{}, api.ErrLong
			default:
				want.Data = data[:size-head]
			}
			holdGetLoad(t, "a length", says(b, size), want, err)
		}
		if t.Failed() {
			t.Fatalf("of the length %d", size)
		}
	}
}

// TestP1902GetLoadOrder has bytes in which more than one thing is wrong.
func TestP1902GetLoadOrder(t *testing.T) {
	b, c := load(1, 2, "data"), seqLoad(1, 2, 3, 4, "data")
	long, longSeq := load(1, 2, some(1461)), seqLoad(1, 2, 3, 4, some(1461))
	for _, x := range []struct {
		what, b string
		err     api.Errno
	}{
		{"too few, no such thing", "\x41\x02" + b[2:7], api.ErrShort},
		{"too few, numbered, no such thing", "\x48\x03" + c[2:7], api.ErrShort},
		{"too few, too short a length", says(b, 7)[:7], api.ErrShort},
		{"no such thing, not all there", "\x41\x02" + says(b, 13)[2:], api.ErrForm},
		{"no such thing, not all there, numbered", "\x49\x02" + says(c, 17)[2:], api.ErrForm},
		{"no such thing, too long", "\x40\x03" + long[2:], api.ErrForm},
		{"no such thing, too long, numbered", "\x48\x00" + longSeq[2:], api.ErrForm},
		{"too long, not all there", long[:len(long)-1], api.ErrShort},
		{"too long, not all there, numbered", longSeq[:len(longSeq)-1], api.ErrShort},
		{"8 bytes, numbered", says(c, 8)[:8], api.ErrForm},
		{"8 bytes, numbered, not all there", says(c, 12)[:8], api.ErrShort},
		{"11 bytes, numbered", says(c, 11)[:11], api.ErrForm},
		{"11 bytes, numbered, not all there", says(c, 12)[:11], api.ErrShort},
		{"too short, too much behind", says(long, 7), api.ErrForm},
		{"too short, too much behind, numbered", says(longSeq, 11), api.ErrForm},
		{"a control message", byhand.Ctl(1, 2, 3, 4, ""), api.ErrForm},
		{"a control message, not all there", says(byhand.Ctl(1, 2, 3, 4, ""), 13), api.ErrForm},
	} {
		holdGetLoad(t, x.what, x.b, api.Load{}, x.err)
	}
}

func TestP1902IsCtl(t *testing.T) {
	if IsCtl("") {
		t.Error("IsCtl of no bytes")
	}
	for v := range 256 {
		for _, behind := range []string{"", "\x00", "\x02", "\xff", "\x80\x80", byhand.Ctl(1, 2, 3, 4, ""), load(1, 2, "x"), strings.Repeat("\xff", 2000)} {
			if got := IsCtl(string([]byte{byte(v)}) + behind); got != (v > 127) {
				t.Errorf("IsCtl of the byte %d and %.20x = %v", v, behind, got)
			}
		}
	}
	for _, b := range []string{load(1, 2, "\xff"), seqLoad(65535, 65535, 65535, 65535, "\xff")} {
		if IsCtl(b) {
			t.Errorf("IsCtl of %x", b)
		}
	}
	if _, b := hello(); !IsCtl(b) {
		t.Errorf("not IsCtl of %x", b)
	}
}
