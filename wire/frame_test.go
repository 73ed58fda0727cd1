package wire

import (
	"math"
	"strings"
	"testing"

	"tollgate/api"
)

// some tells n bytes, no two neighbours alike.
func some(n int) string {
	b := make([]byte, n)
	for i := range b {
		b[i] = byte(i*7 + 3)
	}
	return string(b)
}

// P103: frames.

func TestP103PutEther(t *testing.T) {
	dst, src := api.Mac{1, 2, 3, 4, 5, 6}, api.Mac{0xf7, 8, 9, 10, 11, 0xfc}
	head := "\x01\x02\x03\x04\x05\x06\xf7\x08\x09\x0a\x0b\xfc"
	for _, c := range []struct {
		kind int
		data string
		want string
		err  api.Errno
	}{
		{api.TypeDisc, "xy", head + "\x88\x63xy", api.OK},
		{0, "", head + "\x00\x00", api.OK},
		{65535, some(api.MaxData), head + "\xff\xff" + some(api.MaxData), api.OK},
		{1, some(api.MaxData + 1), "", api.ErrLong},
		{-1, "", "", api.ErrArg},
		{65536, "", "", api.ErrArg},
		{math.MinInt, "", "", api.ErrArg},
		{65536, some(api.MaxData + 1), "", api.ErrArg},
	} {
		got, err := PutEther(api.Ether{Dst: dst, Src: src, Type: c.kind, Data: c.data})
		if got != c.want || err != c.err {
			t.Errorf("PutEther of type %d, %d bytes = %q, %d, not %q, %d", c.kind, len(c.data), got, err, c.want, c.err)
		}
	}
}

func TestP103GetEther(t *testing.T) {
	head := "\x01\x02\x03\x04\x05\x06\xf7\x08\x09\x0a\x0b\xfc\x88\x64"
	frame := func(data string) api.Ether {
		return api.Ether{Dst: api.Mac{1, 2, 3, 4, 5, 6}, Src: api.Mac{0xf7, 8, 9, 10, 11, 0xfc}, Type: api.TypeSession, Data: data}
	}
	for _, c := range []struct {
		b    string
		want api.Ether
		err  api.Errno
	}{
		{"", api.Ether{}, api.ErrShort},
		{head[:13], api.Ether{}, api.ErrShort},
		{head, frame(""), api.OK},
		{head + "xy", frame("xy"), api.OK},
		{head + some(api.MaxData), frame(some(api.MaxData)), api.OK},
		{head + some(api.MaxData+1), api.Ether{}, api.ErrLong},
	} {
		if got, err := GetEther(c.b); got != c.want || err != c.err {
			t.Errorf("GetEther of %d bytes = %v, %d, not %v, %d", len(c.b), got, err, c.want, c.err)
		}
	}
}

// P104: PPP.

func TestP104PutPpp(t *testing.T) {
	most := api.MaxData - 8
	for _, c := range []struct {
		proto int
		data  string
		want  string
		err   api.Errno
	}{
		{api.ProtoLcp, "ab", "\xc0\x21ab", api.OK},
		{api.ProtoIp, "", "\x00\x21", api.OK},
		{1, "x", "\x00\x01x", api.OK},
		{0xfeff, "x", "\xfe\xffx", api.OK},
		{api.ProtoIp, some(most), "\x00\x21" + some(most), api.OK},
		{api.ProtoIp, some(most + 1), "", api.ErrLong},
		{0, "", "", api.ErrArg},
		{0x20, "", "", api.ErrArg},
		{0x0121, "", "", api.ErrArg},
		{0x0120, "", "", api.ErrArg},
		{65535, "", "", api.ErrArg},
		{-1, "", "", api.ErrArg},
		{-255, "", "", api.ErrArg},
		{0x10021, "", "", api.ErrArg},
		{math.MaxInt, "", "", api.ErrArg},
		{0x20, some(most + 1), "", api.ErrArg},
	} {
		if got, err := PutPpp(c.proto, c.data); got != c.want || err != c.err {
			t.Errorf("PutPpp(%#x, %d bytes) = %q, %d, not %q, %d", c.proto, len(c.data), got, err, c.want, c.err)
		}
	}
}

func TestP104GetPpp(t *testing.T) {
	most := api.MaxData - 8
	for _, c := range []struct {
		b     string
		proto int
		data  string
		err   api.Errno
	}{
		{"\xc0\x21x", api.ProtoLcp, "x", api.OK},
		{"\x00\x21", api.ProtoIp, "", api.OK},
		{"\x00\x21" + some(most), api.ProtoIp, some(most), api.OK},
		{"\x00\x21" + some(most+1), 0, "", api.ErrLong},
		{"", 0, "", api.ErrShort},
		{"\xc0", 0, "", api.ErrShort},
		{"\xc1", 0, "", api.ErrShort},
		{"\xc1\x21", 0, "", api.ErrForm},
		{"\xc0\x20", 0, "", api.ErrForm},
		{"\xc1\x20x", 0, "", api.ErrForm},
		{"\xc0\x20" + some(most+1), 0, "", api.ErrForm},
	} {
		if proto, data, err := GetPpp(c.b); proto != c.proto || data != c.data || err != c.err {
			t.Errorf("GetPpp of %d bytes = %#x, %q, %d, not %#x, %q, %d", len(c.b), proto, data, err, c.proto, c.data, c.err)
		}
	}
}

func TestP104EveryProtocol(t *testing.T) {
	for proto := range 65536 {
		good := proto%2 == 1 && proto/256%2 == 0
		b, err := PutPpp(proto, "x")
		if (err == api.OK) != good {
			t.Fatalf("PutPpp(%#x): %d", proto, err)
		}
		raw := string([]byte{byte(proto / 256), byte(proto), 'x'})
		got, data, err := GetPpp(raw)
		if good && (b != raw || got != proto || data != "x" || err != api.OK) || !good && err != api.ErrForm {
			t.Fatalf("GetPpp(%q) = %#x, %q, %d; put %q", raw, got, data, err, b)
		}
	}
}

// P105: datagrams.

func TestP105PutGram(t *testing.T) {
	for _, c := range []struct {
		d    api.Datagram
		want string
		err  api.Errno
	}{
		{api.Datagram{From: 1, To: 65535, Data: "hello"}, Seal("\x00\x01\xff\xff\x00\x05hello"), api.OK},
		{api.Datagram{From: 0x0102, To: 0x0304}, Seal("\x01\x02\x03\x04\x00\x00"), api.OK},
		{api.Datagram{Data: some(api.MaxData)}, Seal("\x00\x00\x00\x00\x05\xdc" + some(api.MaxData)), api.OK},
		{api.Datagram{Data: some(api.MaxData + 1)}, "", api.ErrLong},
		{api.Datagram{From: -1}, "", api.ErrArg},
		{api.Datagram{From: 65536}, "", api.ErrArg},
		{api.Datagram{To: -1}, "", api.ErrArg},
		{api.Datagram{To: 65536}, "", api.ErrArg},
		{api.Datagram{To: math.MinInt, Data: some(api.MaxData + 1)}, "", api.ErrArg},
	} {
		if got, err := PutGram(c.d); got != c.want || err != c.err {
			t.Errorf("PutGram(%v) = %q, %d, not %q, %d", c.d, got, err, c.want, c.err)
		}
	}
}

func TestP105GetGram(t *testing.T) {
	for _, c := range []struct {
		b    string
		want api.Datagram
		err  api.Errno
	}{
		{Seal("\x00\x01\xff\xfe\x00\x05hello"), api.Datagram{From: 1, To: 65534, Data: "hello"}, api.OK},
		{Seal("\x01\x02\x03\x04\x00\x00"), api.Datagram{From: 0x0102, To: 0x0304}, api.OK},
		{Seal("\x00\x00\x00\x00\x05\xdc" + some(api.MaxData)), api.Datagram{Data: some(api.MaxData)}, api.OK},
		{"", api.Datagram{}, api.ErrShort},
		{"\x00", api.Datagram{}, api.ErrShort},
		{"ab", api.Datagram{}, api.ErrSum},
		{"\x00\x01\x00\x02\x00\x00\x00\x00", api.Datagram{}, api.ErrSum},
		{Seal(""), api.Datagram{}, api.ErrShort},
		{Seal("12345"), api.Datagram{}, api.ErrShort},
		{Seal("1234\x05\xdd"), api.Datagram{}, api.ErrLong},
		{Seal("1234\x05\xdd" + some(api.MaxData+1)), api.Datagram{}, api.ErrLong},
		{Seal("1234\x05\xdc"), api.Datagram{}, api.ErrForm},
		{Seal("1234\x00\x01"), api.Datagram{}, api.ErrForm},
		{Seal("1234\x00\x01ab"), api.Datagram{}, api.ErrForm},
		{Seal("1234\x00\x00a"), api.Datagram{}, api.ErrForm},
		{Seal("1234\x05\xdc" + strings.Repeat("x", api.MaxData+1)), api.Datagram{}, api.ErrForm},
	} {
		if got, err := GetGram(c.b); got != c.want || err != c.err {
			t.Errorf("GetGram(%q) = %v, %d, not %v, %d", c.b, got, err, c.want, c.err)
		}
	}
}

// P107: a spoilt datagram is none.
func TestP107SpoiltGram(t *testing.T) {
	b, _ := PutGram(api.Datagram{From: 3, To: 4, Data: "data"})
	for at := range len(b) {
		for turn := 1; turn < 256; turn++ {
			spoilt := []byte(b)
			spoilt[at] ^= byte(turn)
			if got, err := GetGram(string(spoilt)); got != (api.Datagram{}) || err != api.ErrSum {
				t.Fatalf("GetGram(%q), spoilt from %q = %v, %d", spoilt, b, got, err)
			}
		}
	}
}
