package ether

import (
	"slices"
	"strings"
	"testing"

	"tollgate/api"
	"tollgate/byhand"
)

var (
	here  = api.Mac{2, 0, 0, 0, 0, 1}
	there = api.Mac{6, 0, 0, 0, 0, 2}
)

func TestDisc(t *testing.T) {
	tags := []api.Tag{byhand.Service("s"), byhand.Uniq("u")}
	for _, x := range []struct {
		code, session int
		tags          []api.Tag
	}{
		{api.Padi, 0, tags}, {api.Padt, 65535, nil}, {api.Pads, 7, []api.Tag{byhand.Cookie(strings.Repeat("c", 1490))}},
	} {
		want := byhand.Disc(there, here, x.code, x.session, x.tags...)
		if got := Disc(there, here, x.code, x.session, x.tags); !slices.Equal(got, []api.Ether{want}) {
			t.Errorf("Disc = %x, not %x", got, want)
		}
		if d, got, ok := GetDisc(want); d.Code != x.code || d.Session != x.session || !slices.Equal(got, x.tags) || !ok {
			t.Errorf("GetDisc of %x = %v, %v, %v", want, d, got, ok)
		}
	}
}

func TestDiscThatHasNoRoom(t *testing.T) {
	long := []api.Tag{byhand.Cookie(strings.Repeat("c", 1491))}
	for what, got := range map[string][]api.Ether{
		"too many bytes":        Disc(there, here, api.Padi, 0, long),
		"too many tags":         Disc(there, here, api.Padi, 0, make([]api.Tag, 21)),
		"a code that is none":   Disc(there, here, 256, 0, nil),
		"a session that is not": Disc(there, here, api.Padt, 65536, nil),
	} {
		if len(got) != 0 {
			t.Errorf("%s: Disc = %x", what, got)
		}
	}
}

func TestGetDiscOfWhatIsNone(t *testing.T) {
	good := byhand.Disc(there, here, api.Pado, 1, byhand.Service("s"))
	for _, x := range byhand.NoDisc() {
		if d, tags, ok := GetDisc(x.Make(good)); d != (api.Disc{}) || len(tags) != 0 || ok {
			t.Errorf("%s: GetDisc = %v, %v, %v", x.What, d, tags, ok)
		}
	}
}

func TestSession(t *testing.T) {
	for _, data := range []string{"", "x", strings.Repeat("d", 1494)} {
		want := byhand.Talk(there, here, 9, data)
		if f, err := Session(there, here, 9, data); f != want || err != api.OK {
			t.Errorf("Session = %x, %d, not %x", f, err, want)
		}
		if n, got, ok := GetSession(want); n != 9 || got != data || !ok {
			t.Errorf("GetSession = %d, %q, %v", n, got, ok)
		}
	}
	if f, err := Session(there, here, 9, strings.Repeat("d", 1495)); f != (api.Ether{}) || err != api.ErrLong {
		t.Errorf("too many bytes: Session = %x, %d", f, err)
	}
	if f, err := Session(there, here, 65536, ""); f != (api.Ether{}) || err != api.ErrArg {
		t.Errorf("a session that is none: Session = %x, %d", f, err)
	}
}

func TestGetSessionOfWhatIsNone(t *testing.T) {
	good := byhand.Talk(there, here, 9, "ppp")
	for _, x := range byhand.NoSession() {
		if n, data, ok := GetSession(x.Make(good)); n != 0 || data != "" || ok {
			t.Errorf("%s: GetSession = %d, %q, %v", x.What, n, data, ok)
		}
	}
}

func TestEveryone(t *testing.T) {
	for _, b := range Everyone() {
		if b != 255 {
			t.Errorf("Everyone() = %v", Everyone())
		}
	}
}
