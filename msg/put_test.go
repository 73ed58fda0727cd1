package msg

import (
	"encoding/hex"
	"slices"
	"testing"

	"tollgate/api"
	"tollgate/byhand"
)

// P1901: Put.

func TestP1901Example(t *testing.T) {
	holdPut(t, "the example", api.Ctl{}, "", string([]byte{200, 2, 0, 12, 0, 0, 0, 0, 0, 0, 0, 0}), api.OK)
}

// holdWords puts a message whose numbers stand at their edges, one by one.
func holdWords(t *testing.T, what string, l []api.Avp, values string) {
	t.Helper()
	for _, v := range edges() {
		for i, n := range [4][4]int{{v, 2, 3, 4}, {1, v, 3, 4}, {1, 2, v, 4}, {1, 2, 3, v}} {
			want, err := byhand.Ctl(n[0], n[1], n[2], n[3], values), api.OK
			if !fits(v) {
				want, err = "", api.ErrArg
			}
			c := api.Ctl{Tunnel: n[0], Session: n[1], Ns: n[2], Nr: n[3], Avps: l}
			holdPut(t, what, c, "", want, err)
			holdPut(t, what, c, "secret", want, err) // where nothing is Hidden it says nothing
			if t.Failed() {
				t.Fatalf("of %d at place %d", v, i)
			}
		}
	}
}

func TestP1901PutWords(t *testing.T) {
	kind := "\x80\x08\x00\x00\x00\x00\x00\x06"
	holdWords(t, "nil", nil, "")
	holdWords(t, "no values", []api.Avp{}, "")
	holdWords(t, "one value", []api.Avp{num(0, 6)}, kind)
	holdWords(t, "a value that is not Must", []api.Avp{{Vendor: 0x1234, Type: 0x5678, Value: "v"}}, "\x00\x07\x12\x34\x56\x78v")
	holdWords(t, "several values", []api.Avp{num(0, 6), {Type: 7, Value: "name"}, {Must: true, Type: 39}},
		kind+"\x00\x0a\x00\x00\x00\x07name"+"\x80\x06\x00\x00\x00\x27")
	holdWords(t, "values that are no message", []api.Avp{{Must: true, Vendor: 3, Type: 99}, num(0, 5), num(0, 5)},
		"\x80\x06\x00\x03\x00\x63"+"\x80\x08\x00\x00\x00\x00\x00\x05"+"\x80\x08\x00\x00\x00\x00\x00\x05") // Put checks none
}

// TestP1901PutWordsTogether has several numbers at their edges at once.
func TestP1901PutWordsTogether(t *testing.T) {
	for _, a := range edges() {
		for _, b := range edges() {
			want, err := byhand.Ctl(a, b, b, a, ""), api.OK
			if !fits(a) || !fits(b) {
				want, err = "", api.ErrArg
			}
			holdPut(t, "numbers", api.Ctl{Tunnel: a, Session: b, Ns: b, Nr: a}, "", want, err)
		}
	}
}

// TestP1901PutHidden has bytes that were reckoned by another program, from RFC 2661 alone.
func TestP1901PutHidden(t *testing.T) {
	values, err := hex.DecodeString("800900000024766563" + "c00c00000007" + "c662dc9acc32")
	if err != nil {
		t.Fatal(err)
	}
	l := []api.Avp{{Must: true, Type: 36, Value: "vec"}, {Must: true, Hidden: true, Type: 7, Value: "name"}}
	c := api.Ctl{Tunnel: 258, Session: 772, Ns: 1286, Nr: 1800, Avps: l}
	b := byhand.Ctl(258, 772, 1286, 1800, string(values))
	holdPut(t, "a hidden value", c, "secret", b, api.OK)
	holdGet(t, "a hidden value", b, "secret", c, api.OK)
	holdPut(t, "a hidden value, no secret", c, "", "", api.ErrAuth)
	holdGet(t, "a hidden value, no secret", b, "", api.Ctl{}, api.ErrAuth)
	holdGet(t, "a hidden value, another secret", b, "other", api.Ctl{}, api.ErrForm)
}

// TestP1901PutMost has as many bytes as values may have, and one more.
func TestP1901PutMost(t *testing.T) {
	l := []api.Avp{{Type: 7, Value: some(1000)}, {Type: 7, Value: some(476)}}
	values := byhand.Value(0, 0, 7, some(1000)) + byhand.Value(0, 0, 7, some(476))
	b := byhand.Ctl(1, 2, 3, 4, values)
	if len(b) != 1500 {
		t.Fatalf("the longest message has %d bytes", len(b))
	}
	c := api.Ctl{Tunnel: 1, Session: 2, Ns: 3, Nr: 4, Avps: l}
	holdPut(t, "the longest", c, "", b, api.OK)
	c.Avps[1].Value += "x"
	holdPut(t, "one byte more", c, "", "", api.ErrLong)
	c.Avps = slices.Repeat([]api.Avp{{Type: 39}}, 40)
	all, _ := Put(c, "")
	if len(all) != 12+40*6 || all[2:4] != byhand.Word(12+40*6) {
		t.Errorf("Put of 40 values = %x", all)
	}
}

// refused tells values that avp.Put does not take, and why.
func refused() []struct {
	what, secret string
	l            []api.Avp
	err          api.Errno
} {
	hidden := api.Avp{Hidden: true, Type: 7, Value: "x"}
	vector := api.Avp{Type: 36, Value: "v"}
	return []struct {
		what, secret string
		l            []api.Avp
		err          api.Errno
	}{
		{"41 values", "s", slices.Repeat([]api.Avp{{Type: 1}}, 41), api.ErrLong},
		{"a Vendor below 0", "s", []api.Avp{{Vendor: -1}}, api.ErrArg},
		{"a Type too great", "s", []api.Avp{{Type: 65536}}, api.ErrArg},
		{"a Value too long", "s", []api.Avp{{Value: some(1001)}}, api.ErrLong},
		{"too many bytes", "s", []api.Avp{{Value: some(1000)}, {Value: some(1000)}}, api.ErrLong},
		{"a hidden one, no secret", "", []api.Avp{vector, hidden}, api.ErrAuth},
		{"a hidden one, no vector", "s", []api.Avp{hidden, vector}, api.ErrMust},
		{"a hidden one behind good ones", "s", []api.Avp{num(0, 6), {Type: 1}, hidden}, api.ErrMust},
	}
}

func TestP1901PutRefused(t *testing.T) {
	for _, x := range refused() {
		holdPut(t, x.what, of(x.l...), x.secret, "", x.err)
		holdPut(t, x.what, api.Ctl{Tunnel: 65535, Session: 65535, Ns: 65535, Nr: 65535, Avps: x.l}, x.secret, "", x.err)
	}
}

// TestP1901PutOrder has values that are refused, and a number out of its range besides.
func TestP1901PutOrder(t *testing.T) {
	for _, x := range refused() {
		for _, v := range edges() {
			err := x.err
			if !fits(v) {
				err = api.ErrArg
			}
			for _, c := range []api.Ctl{{Tunnel: v}, {Session: v}, {Ns: v}, {Nr: v}} {
				c.Avps = x.l
				holdPut(t, x.what, c, x.secret, "", err)
			}
		}
	}
}

// TestP1901PutKeepsWhatItIsGiven has a list with spare room.
func TestP1901PutKeepsWhatItIsGiven(t *testing.T) {
	all := []api.Avp{num(0, 6), {Type: 36, Value: "v"}, {Hidden: true, Type: 7, Value: "n"}, {Type: 98}, {Type: 99}}
	want := slices.Clone(all)
	for n := range len(all) {
		if _, err := Put(of(all[:n]...), "s"); err != api.OK {
			t.Errorf("Put = %d", err)
		}
	}
	if !slices.Equal(all, want) {
		t.Errorf("Put made %v of %v", all, want)
	}
}
