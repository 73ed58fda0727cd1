package tag

import (
	"math"
	"strings"
	"testing"

	"tollgate/api"
)

// P501, and of P504 what has to do with packets.

const mostRoom = 1494 // MaxData - 6, written out so that a slip in the constant shows

// some tells n bytes, no two neighbours alike.
func some(n int) string {
	b := make([]byte, n)
	for i := range b {
		b[i] = byte(i*7 + 3)
	}
	return string(b)
}

func TestP501Example(t *testing.T) {
	tags, err := PutTags([]api.Tag{{Type: 0x0101}})
	if err != api.OK {
		t.Fatalf("PutTags = %d", err)
	}
	got, err := Put(api.Disc{Code: 9, Session: 0, Data: tags})
	want := string([]byte{17, 9, 0, 0, 0, 4, 1, 1, 0, 0})
	if got != want || err != api.OK {
		t.Errorf("Put = %q, %d, not %q", got, err, want)
	}
}

func TestP501Put(t *testing.T) {
	for _, c := range []struct {
		d    api.Disc
		want string
		err  api.Errno
	}{
		{api.Disc{}, "\x11\x00\x00\x00\x00\x00", api.OK},
		{api.Disc{Code: api.Padt, Session: 0x1234, Data: "xyz"}, "\x11\xa7\x12\x34\x00\x03xyz", api.OK},
		{api.Disc{Code: 255, Session: 65535}, "\x11\xff\xff\xff\x00\x00", api.OK},
		{api.Disc{Code: 1, Session: 255}, "\x11\x01\x00\xff\x00\x00", api.OK},
		{api.Disc{Code: 1, Session: 256}, "\x11\x01\x01\x00\x00\x00", api.OK},
		{api.Disc{Data: some(255)}, "\x11\x00\x00\x00\x00\xff" + some(255), api.OK},
		{api.Disc{Data: some(256)}, "\x11\x00\x00\x00\x01\x00" + some(256), api.OK},
		{api.Disc{Data: some(mostRoom)}, "\x11\x00\x00\x00\x05\xd6" + some(mostRoom), api.OK},
		{api.Disc{Data: some(mostRoom + 1)}, "", api.ErrLong},
		{api.Disc{Data: some(api.MaxData)}, "", api.ErrLong},
		{api.Disc{Data: some(65536)}, "", api.ErrLong},
		{api.Disc{Code: -1}, "", api.ErrArg},
		{api.Disc{Code: 256}, "", api.ErrArg},
		{api.Disc{Code: math.MinInt}, "", api.ErrArg},
		{api.Disc{Code: math.MaxInt}, "", api.ErrArg},
		{api.Disc{Session: -1}, "", api.ErrArg},
		{api.Disc{Session: 65536}, "", api.ErrArg},
		{api.Disc{Session: math.MinInt}, "", api.ErrArg},
		{api.Disc{Session: math.MaxInt}, "", api.ErrArg},
		{api.Disc{Code: 256, Data: some(mostRoom + 1)}, "", api.ErrArg},
		{api.Disc{Session: -1, Data: some(mostRoom + 1)}, "", api.ErrArg},
	} {
		if got, err := Put(c.d); got != c.want || err != c.err {
			t.Errorf("Put of code %d, session %d, %d bytes = %q, %d, not %q, %d", c.d.Code, c.d.Session, len(c.d.Data), got, err, c.want, c.err)
		}
	}
}

func TestP501Get(t *testing.T) {
	full := "\x11\x07\x01\x02\x05\xd6" + some(mostRoom)
	for _, c := range []struct {
		b    string
		want api.Disc
		err  api.Errno
	}{
		{"\x11\x00\x00\x00\x00\x00", api.Disc{}, api.OK},
		{"\x11\xa7\x12\x34\x00\x03xyz", api.Disc{Code: api.Padt, Session: 0x1234, Data: "xyz"}, api.OK},
		{"\x11\xff\xff\xfe\x00\x00", api.Disc{Code: 255, Session: 65534}, api.OK},
		{"\x11\x09\x00\x80\x00\x01\xff", api.Disc{Code: 9, Session: 128, Data: "\xff"}, api.OK},
		{"\x11\x09\x00\x00\x01\x00" + some(256), api.Disc{Code: 9, Data: some(256)}, api.OK},
		{"\x11\x09\x00\x00\x01\x00" + some(255), api.Disc{}, api.ErrShort},
		{full, api.Disc{Code: 7, Session: 258, Data: some(mostRoom)}, api.OK},
		{full[:len(full)-1], api.Disc{}, api.ErrShort},
		{full + some(1000), api.Disc{Code: 7, Session: 258, Data: some(mostRoom)}, api.OK},
		{"\x11\x07\x01\x02\x05\xd7" + some(mostRoom+1), api.Disc{}, api.ErrLong},
		{"\x11\x07\x01\x02\x05\xd7", api.Disc{}, api.ErrLong}, // too long is looked for ahead of too few bytes
		{"\x11\x07\x01\x02\xff\xff" + some(65535), api.Disc{}, api.ErrLong},
		{"\x11\x07\x01\x02\x00\x02xyz", api.Disc{Code: 7, Session: 258, Data: "xy"}, api.OK},
		{"\x11\x07\x01\x02\x00\x00xyz", api.Disc{Code: 7, Session: 258}, api.OK},
	} {
		if got, err := Get(c.b); got != c.want || err != c.err {
			t.Errorf("Get of %.20q (%d bytes) = %v, %d, not %v, %d", c.b, len(c.b), got, err, c.want, c.err)
		}
	}
}

func TestP501CutEverywhere(t *testing.T) {
	b := "\x11\x19\x00\x07\x00\x05hello"
	for i := range len(b) {
		if got, err := Get(b[:i]); got != (api.Disc{}) || err != api.ErrShort {
			t.Errorf("Get of %d bytes of %d = %v, %d", i, len(b), got, err)
		}
	}
}

func TestP501FirstByte(t *testing.T) {
	for i := range 256 {
		first := string([]byte{byte(i)})
		for _, behind := range []string{"\x07\x00\x01\x00\x01x", "\x07\x00\x01\x00\x01", "\x07\x00\x01\xff\xff"} {
			got, err := Get(first + behind)
			if i != 17 && (got != (api.Disc{}) || err != api.ErrForm) {
				t.Errorf("Get of the first byte %d, then %q = %v, %d", i, behind, got, err)
			}
			if i == 17 && err == api.ErrForm {
				t.Errorf("Get of the first byte 17, then %q = %d", behind, err)
			}
		}
		if _, err := Get(first + "\x07\x00\x01\x00"); err != api.ErrShort {
			t.Errorf("Get of five bytes, the first %d = %d", i, err)
		}
	}
}

func TestP504Packet(t *testing.T) {
	fillings := []string{"", "\x00", "\x11\x09\x00\x00\x00\x00", some(40), strings.Repeat("\xff", 3000)}
	hold := func(d api.Disc) {
		b, err := Put(d)
		if err != api.OK || len(b) != len(d.Data)+6 {
			t.Errorf("Put of code %d, session %d, %d bytes = %d bytes, %d", d.Code, d.Session, len(d.Data), len(b), err)
			return
		}
		for _, f := range fillings {
			if got, err := Get(b + f); got != d || err != api.OK {
				t.Errorf("Get of Put of code %d, session %d, %d bytes, with %d behind = %v, %d", d.Code, d.Session, len(d.Data), len(f), got, err)
			}
		}
	}
	for code := range 256 {
		hold(api.Disc{Code: code, Session: code * 257, Data: some(code)})
	}
	for session := range 65536 {
		hold(api.Disc{Code: api.Pads, Session: session, Data: "s"})
	}
	for n := range mostRoom + 1 {
		hold(api.Disc{Code: 0, Session: 9, Data: some(n)})
	}
}
