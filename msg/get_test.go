package msg

import (
	"slices"
	"strings"
	"testing"

	"tollgate/api"
	"tollgate/byhand"
)

// P1901: Get.

// hello tells a message and its bytes.
func hello() (api.Ctl, string) {
	c := api.Ctl{Tunnel: 258, Session: 772, Ns: 1286, Nr: 65535, Avps: []api.Avp{num(0, 6), {Vendor: 9, Type: 7, Value: "name"}}}
	return c, byhand.Ctl(258, 772, 1286, 65535, byhand.Value(32768, 0, 0, "\x00\x06")+byhand.Value(0, 9, 7, "name"))
}

func TestP1901Get(t *testing.T) {
	c, b := hello()
	holdGet(t, "a message", b, "", c, api.OK)
	holdGet(t, "a message, a secret", b, "secret", c, api.OK)
	holdGet(t, "no values", byhand.Ctl(0, 0, 0, 0, ""), "", api.Ctl{}, api.OK)
	for _, v := range edges() {
		if !fits(v) {
			continue
		}
		holdGet(t, "Tunnel", byhand.Ctl(v, 1, 2, 3, ""), "", api.Ctl{Tunnel: v, Session: 1, Ns: 2, Nr: 3}, api.OK)
		holdGet(t, "Session", byhand.Ctl(1, v, 2, 3, ""), "", api.Ctl{Tunnel: 1, Session: v, Ns: 2, Nr: 3}, api.OK)
		holdGet(t, "Ns", byhand.Ctl(1, 2, v, 3, ""), "", api.Ctl{Tunnel: 1, Session: 2, Ns: v, Nr: 3}, api.OK)
		holdGet(t, "Nr", byhand.Ctl(1, 2, 3, v, ""), "", api.Ctl{Tunnel: 1, Session: 2, Ns: 3, Nr: v}, api.OK)
	}
}

func TestP1901GetShort(t *testing.T) {
	_, b := hello()
	for n := range 12 {
		for _, from := range []string{b, some(12), strings.Repeat("\x00", 12), strings.Repeat("\xff", 12), byhand.Ctl(0, 0, 0, 0, "")} {
			for _, size := range []int{0, n, 11, 12, 13, 65535} {
				holdGet(t, "too few", says(from, size)[:n], "", api.Ctl{}, api.ErrShort)
			}
		}
	}
}

// TestP1901GetFirst has each other first and second byte.
func TestP1901GetFirst(t *testing.T) {
	c, b := hello()
	for v := range 256 {
		one, two := string([]byte{byte(v)})+b[1:], b[:1]+string([]byte{byte(v)})+b[2:]
		want, err := api.Ctl{}, api.ErrForm
		if v == 200 {
			want, err = c, api.OK
		}
		holdGet(t, "a first byte", one, "", want, err)
		want, err = api.Ctl{}, api.ErrForm
		if v == 2 {
			want, err = c, api.OK
		}
		holdGet(t, "a second byte", two, "", want, err)
	}
	holdGet(t, "turned round", "\x02\xc8"+b[2:], "", api.Ctl{}, api.ErrForm)
	holdGet(t, "a data message", load(1, 2, "datadata"), "", api.Ctl{}, api.ErrForm)
	holdGet(t, "a data message, numbered", seqLoad(1, 2, 3, 4, "data"), "", api.Ctl{}, api.ErrForm)
}

// TestP1901GetLength has each length that a message with three bare values may name.
func TestP1901GetLength(t *testing.T) {
	bare := byhand.Value(0, 0, 39, "")
	b := byhand.Ctl(1, 2, 3, 4, bare+bare+bare)
	for size := range 65536 {
		want, err := api.Ctl{}, api.ErrShort // also of a value that is cut off
		switch {
		case size < 12:
			err = api.ErrForm
		case size <= len(b) && (size-12)%6 == 0:
			err = api.OK
			want = api.Ctl{Tunnel: 1, Session: 2, Ns: 3, Nr: 4, Avps: slices.Repeat([]api.Avp{{Type: 39}}, (size-12)/6)}
		}
		holdGet(t, "a length", says(b, size), "", want, err)
		if t.Failed() {
			t.Fatalf("of the length %d", size)
		}
	}
}

func TestP1901GetFilling(t *testing.T) {
	c, b := hello()
	for _, f := range fillings() {
		holdGet(t, "filling", b+f, "", c, api.OK)
		holdGet(t, "filling behind no values", byhand.Ctl(1, 2, 3, 4, "")+f, "", api.Ctl{Tunnel: 1, Session: 2, Ns: 3, Nr: 4}, api.OK)
		holdGet(t, "filling is not read", says(byhand.Ctl(0, 0, 0, 0, "\x3c\x00"), 12)+f, "", api.Ctl{}, api.OK)
	}
	for n := range len(b) {
		holdGet(t, "cut off", b[:n], "", api.Ctl{}, api.ErrShort)
	}
}

// TestP1901GetLong has as many bytes as values may have, far more than Put would lay.
func TestP1901GetLong(t *testing.T) {
	values := strings.Repeat(byhand.Value(0, 0, 1, some(1000)), 40)
	want := of(slices.Repeat([]api.Avp{{Type: 1, Value: some(1000)}}, 40)...)
	holdGet(t, "40 of the longest", byhand.Ctl(0, 0, 0, 0, values), "", want, api.OK)
	holdGet(t, "41", byhand.Ctl(0, 0, 0, 0, values+byhand.Value(0, 0, 1, "")), "", api.Ctl{}, api.ErrLong)
	holdGet(t, "the 41st is filling", says(byhand.Ctl(0, 0, 0, 0, values+byhand.Value(0, 0, 1, "")), 12+len(values)), "", want, api.OK)
	holdGet(t, "the greatest length", byhand.Ctl(0, 0, 0, 0, strings.Repeat("\x00", 65535-12)), "", api.Ctl{}, api.ErrForm)
	holdGet(t, "the greatest length, one byte less", byhand.Ctl(0, 0, 0, 0, strings.Repeat("\x00", 65535-12))[:65534], "", api.Ctl{}, api.ErrShort)
}

// refusedBytes tells bytes of values that avp.Get does not take, and why.
func refusedBytes() []struct {
	what, secret, b string
	err             api.Errno
} {
	hidden := byhand.Value(16384, 0, 7, "hidden")
	vector := byhand.Value(0, 0, 36, "v")
	return []struct {
		what, secret, b string
		err             api.Errno
	}{
		{"less than a head", "s", "\x00\x06\x00\x00\x00", api.ErrShort},
		{"one byte behind a value", "s", byhand.Value(0, 0, 1, "x") + "\x00", api.ErrShort},
		{"bits", "s", "\x04\x06\x00\x00\x00\x01", api.ErrForm},
		{"a length below 6", "s", "\x80\x05\x00\x00\x00\x00", api.ErrForm},
		{"a value not all there", "s", "\x00\x07\x00\x00\x00\x01", api.ErrShort},
		{"a Value too long", "s", byhand.Value(0, 0, 1, some(1001)), api.ErrLong},
		{"41 values", "s", strings.Repeat(byhand.Value(0, 0, 1, ""), 41), api.ErrLong},
		{"hidden, no secret", "", vector + hidden, api.ErrAuth},
		{"hidden, no vector", "s", hidden + vector, api.ErrMust},
		{"hidden, of no bytes", "s", vector + byhand.Value(16384, 0, 7, ""), api.ErrForm},
		{"hidden, another length", "s", vector + hidden, api.ErrForm},
	}
}

func TestP1901GetRefused(t *testing.T) {
	for _, x := range refusedBytes() {
		b := byhand.Ctl(1, 2, 3, 4, x.b)
		holdGet(t, x.what, b, x.secret, api.Ctl{}, x.err)
		holdGet(t, x.what+", with filling", b+"filling", x.secret, api.Ctl{}, x.err)
		holdGet(t, x.what+", behind a good one", byhand.Ctl(1, 2, 3, 4, byhand.Value(32768, 0, 0, "\x00\x06")+x.b), x.secret, api.Ctl{}, x.err)
	}
}

// TestP1901GetOrder has bytes in which more than one thing is wrong.
func TestP1901GetOrder(t *testing.T) {
	for _, x := range refusedBytes() {
		b := byhand.Ctl(1, 2, 3, 4, x.b)
		holdGet(t, "too few bytes: "+x.what, b[:11], x.secret, api.Ctl{}, api.ErrShort)
		holdGet(t, "too few bytes, no such thing: "+x.what, "\x48"+b[1:11], x.secret, api.Ctl{}, api.ErrShort)
		holdGet(t, "no such thing: "+x.what, "\x48"+b[1:], x.secret, api.Ctl{}, api.ErrForm)
		holdGet(t, "no such thing, not all there: "+x.what, "\xc8\x03"+says(b, len(b)+1)[2:], x.secret, api.Ctl{}, api.ErrForm)
		holdGet(t, "no such thing, too short: "+x.what, "\xc8\x03"+says(b, 11)[2:], x.secret, api.Ctl{}, api.ErrForm)
		holdGet(t, "not all there: "+x.what, says(b, len(b)+1), x.secret, api.Ctl{}, api.ErrShort)
		holdGet(t, "too short: "+x.what, says(b, 11), x.secret, api.Ctl{}, api.ErrForm)
		holdGet(t, "a length of 0: "+x.what, says(b, 0), x.secret, api.Ctl{}, api.ErrForm)
		holdGet(t, "filling alone: "+x.what, says(b, 12), x.secret, api.Ctl{Tunnel: 1, Session: 2, Ns: 3, Nr: 4}, api.OK)
	}
}

func TestP1901NothingIsShared(t *testing.T) {
	want, b := hello()
	for range 3 {
		got, err := Get(b, "")
		if !sameCtl(got, want) || err != api.OK {
			t.Errorf("Get = %v, %d", got, err)
		}
		l := got.Avps[:cap(got.Avps)]
		for i := range l {
			l[i] = api.Avp{Type: -9, Value: "spoilt"}
		}
	}
}
