package avp

import (
	"fmt"
	"testing"

	"tollgate/api"
	"tollgate/byhand"
)

// P1801 and P1802 of Hidden values.

// TestP1801HiddenBytes has bytes that were reckoned by another program, from RFC 2661 alone.
func TestP1801HiddenBytes(t *testing.T) {
	l := []api.Avp{vector("vec"), {Must: true, Hidden: true, Type: 7, Value: "name"}}
	b, err := Put(l, "secret")
	if err != api.OK || len(b) != 9+12 {
		t.Fatalf("Put = %x, %d", b, err)
	}
	if want := "800900000024766563" + "c00c00000007" + "c662dc9acc32"; fmt.Sprintf("%x", b) != want {
		t.Errorf("Put = %x, not %s", b, want)
	}
}

func TestP1801Hidden(t *testing.T) {
	open := openly("vec")
	for _, c := range []struct {
		what string
		l    []api.Avp
		want string
	}{
		{"an empty Value", []api.Avp{vector("vec"), hidden(30, "")}, open + covered(30, "s", "vec", "\x00\x00")},
		{"a Value", []api.Avp{vector("vec"), hidden(30, "x")}, open + covered(30, "s", "vec", "\x00\x01x")},
		{"of several pieces", []api.Avp{vector("vec"), hidden(30, some(300))}, open + covered(30, "s", "vec", "\x01\x2c"+some(300))},
		{"Must", []api.Avp{vector("vec"), {Must: true, Hidden: true, Type: 7, Value: "n"}}, open + byhand.Value(32768+16384, 0, 7, masked(7, "s", "vec", "\x00\x01n"))},
		{"of a Vendor", []api.Avp{vector("vec"), {Hidden: true, Vendor: 258, Type: 772, Value: "n"}}, open + byhand.Value(16384, 258, 772, masked(772, "s", "vec", "\x00\x01n"))},
		{"behind an empty vector", []api.Avp{vector(""), hidden(7, "n")}, openly("") + covered(7, "s", "", "\x00\x01n")},
		{"behind one that is not Must", []api.Avp{{Type: 36, Value: "v"}, hidden(7, "n")}, byhand.Value(0, 0, 36, "v") + covered(7, "s", "v", "\x00\x01n")},
		{"behind a long one", []api.Avp{vector(some(1000)), hidden(7, "n")}, openly(some(1000)) + covered(7, "s", some(1000), "\x00\x01n")},
		{"not right behind it", []api.Avp{{Type: 1}, vector("v"), {Type: 2, Value: "z"}, hidden(7, "n")}, byhand.Value(0, 0, 1, "") + openly("v") + byhand.Value(0, 0, 2, "z") + covered(7, "s", "v", "\x00\x01n")},
		{"the last one counts", []api.Avp{vector("one"), vector("two"), hidden(7, "n")}, openly("one") + openly("two") + covered(7, "s", "two", "\x00\x01n")},
		{"the last one counts, though it is empty", []api.Avp{vector("one"), vector(""), hidden(7, "n")}, openly("one") + openly("") + covered(7, "s", "", "\x00\x01n")},
		{"the last one ahead, not one behind", []api.Avp{vector("one"), hidden(7, "n"), vector("two")}, openly("one") + covered(7, "s", "one", "\x00\x01n") + openly("two")},
		{"each by its own", []api.Avp{vector("one"), hidden(7, "n"), vector("two"), hidden(7, "n")}, openly("one") + covered(7, "s", "one", "\x00\x01n") + openly("two") + covered(7, "s", "two", "\x00\x01n")},
		{"several by one", []api.Avp{vector("v"), hidden(7, "n"), hidden(8, "n")}, openly("v") + covered(7, "s", "v", "\x00\x01n") + covered(8, "s", "v", "\x00\x01n")},
		{"a hidden vector does not count", []api.Avp{vector("v"), hidden(36, "w"), hidden(7, "n")}, openly("v") + covered(36, "s", "v", "\x00\x01w") + covered(7, "s", "v", "\x00\x01n")},
		{"one of a Vendor does not count", []api.Avp{vector("v"), {Vendor: 1, Type: 36, Value: "w"}, hidden(7, "n")}, openly("v") + byhand.Value(0, 1, 36, "w") + covered(7, "s", "v", "\x00\x01n")},
		{"one of a Type beside it does not count", []api.Avp{vector("v"), {Type: 35, Value: "w"}, hidden(7, "n")}, openly("v") + byhand.Value(0, 0, 35, "w") + covered(7, "s", "v", "\x00\x01n")},
	} {
		holdPut(t, c.what, c.l, "s", c.want, api.OK)
		holdGet(t, c.what, c.want, "s", c.l, api.OK)
		holdPut(t, c.what+", without a secret", c.l, "", "", api.ErrAuth)
		holdGet(t, c.what+", without a secret", c.want, "", nil, api.ErrAuth)
	}
}

func TestP1801HiddenMust(t *testing.T) {
	holdPut(t, "the example", []api.Avp{hidden(7, "x")}, "s", "", api.ErrMust)
	for _, c := range []struct {
		what string
		l    []api.Avp
	}{
		{"a hidden one alone", []api.Avp{hidden(7, "x")}},
		{"an empty hidden one alone", []api.Avp{hidden(0, "")}},
		{"a hidden vector", []api.Avp{hidden(36, "x")}},
		{"behind other ones", []api.Avp{{Type: 7, Value: "x"}, {Type: 35}, {Type: 37}, hidden(7, "x")}},
		{"a vector of another Vendor", []api.Avp{{Vendor: 1, Type: 36, Value: "v"}, hidden(7, "x")}},
		{"a vector of the greatest Vendor", []api.Avp{{Vendor: 65535, Type: 36, Value: "v"}, hidden(7, "x")}},
		{"ahead of its vector", []api.Avp{hidden(7, "x"), vector("v")}},
	} {
		holdPut(t, c.what, c.l, "s", "", api.ErrMust)
		b := ""
		for _, a := range c.l {
			if a.Hidden {
				b += covered(a.Type, "s", "v", whole(a.Value))
				continue
			}
			b += byhand.Value(0, a.Vendor, a.Type, a.Value)
		}
		holdGet(t, c.what, b, "s", nil, api.ErrMust)
		holdGet(t, c.what, b, "", nil, api.ErrAuth)
	}
}

// TestP1801HiddenLengths has the length that is hidden with the Value, and the one in the open.
func TestP1801HiddenLengths(t *testing.T) {
	for _, n := range []int{0, 1, 13, 14, 15, 16, 29, 30, 31, 248, 255, 256, 505, 999, 1000} {
		l := []api.Avp{vector("v"), hidden(7, some(n))}
		want := openly("v") + byhand.Word(16384+8+n) + "\x00\x00\x00\x07" + masked(7, "s", "v", byhand.Word(n)+some(n))
		holdPut(t, "a hidden one", l, "s", want, api.OK)
		holdGet(t, "a hidden one", want, "s", l, api.OK)
	}
	holdPut(t, "a hidden one too long", []api.Avp{vector("v"), hidden(7, some(1001))}, "s", "", api.ErrLong)
}

// TestP1801HiddenRoom has that of a hidden value its hidden length counts, too.
func TestP1801HiddenRoom(t *testing.T) {
	for _, sizes := range [][2]int{{1000, 466}, {733, 733}, {466, 1000}, {1000, 467}, {734, 733}} {
		l := []api.Avp{vector(""), hidden(7, some(sizes[0])), hidden(8, some(sizes[1]))}
		want, err := "", api.ErrLong
		if sizes[0]+sizes[1]+6+8+8 <= mostRoom {
			want, err = openly("")+covered(7, "s", "", whole(some(sizes[0])))+covered(8, "s", "", whole(some(sizes[1]))), api.OK
		}
		holdPut(t, "hidden ones", l, "s", want, err)
	}
}

// TestP1802HiddenForm has hidden values whose length is not what stands behind it.
func TestP1802HiddenForm(t *testing.T) {
	for _, c := range []struct {
		what, shown string
		want        string
		err         api.Errno
	}{
		{"no bytes", "", "", api.ErrForm},
		{"1 byte", "\x00", "", api.ErrForm},
		{"1 byte, not 0", "\x01", "", api.ErrForm},
		{"a length of 0, nothing behind", "\x00\x00", "", api.OK},
		{"a length of 1, nothing behind", "\x00\x01", "", api.ErrForm},
		{"a length of 0, a byte behind", "\x00\x00a", "", api.ErrForm},
		{"a length of 1, a byte behind", "\x00\x01a", "a", api.OK},
		{"one less", "\x00\x02abc", "", api.ErrForm},
		{"just so", "\x00\x03abc", "abc", api.OK},
		{"one more", "\x00\x04abc", "", api.ErrForm},
		{"the length of all", "\x00\x05abc", "", api.ErrForm},
		{"its bytes turned round", "\x03\x00abc", "", api.ErrForm},
		{"with higher bits", "\x80\x03abc", "", api.ErrForm},
		{"with a byte of filling", "\x00\x03abc\x00", "", api.ErrForm},
		{"with much filling", "\x00\x03abc" + some(40), "", api.ErrForm},
		{"256 bytes", "\x01\x00" + some(256), some(256), api.OK},
		{"256 bytes, one less", "\x00\xff" + some(256), "", api.ErrForm},
		{"256 bytes, one more", "\x01\x01" + some(256), "", api.ErrForm},
		{"the most", "\x03\xe8" + some(1000), some(1000), api.OK},
		{"the most, one less", "\x03\xe7" + some(1000), "", api.ErrForm},
		{"the most, one more", "\x03\xe9" + some(1000), "", api.ErrForm},
		{"one more than the most", "\x03\xe9" + some(1001), "", api.ErrLong},
	} {
		for _, ahead := range []string{openly("v"), openly("v") + byhand.Value(0, 5, 6, "x"), openly("w") + openly("v"), openly("v") + covered(7, "s", "v", "\x00\x01n")} {
			l, err := Get(ahead, "s")
			if err != api.OK {
				t.Fatalf("Get of %x = %d", ahead, err)
			}
			want := append(l, hidden(30, c.want))
			if c.err != api.OK {
				want = nil
			}
			holdGet(t, c.what, ahead+covered(30, "s", "v", c.shown), "s", want, c.err)
			if c.err == api.OK {
				want = append(want, api.Avp{Type: 1})
			}
			holdGet(t, c.what+", and one behind", ahead+covered(30, "s", "v", c.shown)+bares(1), "s", want, c.err)
		}
	}
}

// TestP1802HiddenOther has bytes that were hidden by another Type, vector or secret.
func TestP1802HiddenOther(t *testing.T) {
	l := []api.Avp{vector("v"), hidden(7, "name")}
	for _, c := range []struct {
		what, b, secret string
		good            bool
	}{
		{"the same", openly("v") + byhand.Value(16384, 0, 7, masked(7, "s", "v", "\x00\x04name")), "s", true},
		{"another Type", openly("v") + byhand.Value(16384, 0, 7, masked(8, "s", "v", "\x00\x04name")), "s", false},
		{"another vector", openly("v") + byhand.Value(16384, 0, 7, masked(7, "s", "w", "\x00\x04name")), "s", false},
		{"no vector", openly("v") + byhand.Value(16384, 0, 7, masked(7, "s", "", "\x00\x04name")), "s", false},
		{"another secret", openly("v") + byhand.Value(16384, 0, 7, masked(7, "t", "v", "\x00\x04name")), "s", false},
		{"not hidden at all", openly("v") + byhand.Value(16384, 0, 7, "\x00\x04name"), "s", false},
	} {
		if c.good {
			holdGet(t, c.what, c.b, c.secret, l, api.OK)
			continue
		}
		holdGet(t, c.what, c.b, c.secret, nil, api.ErrForm)
	}
}
