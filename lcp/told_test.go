package lcp

import (
	"math"
	"strings"
	"testing"

	"tollgate/api"
	"tollgate/tape"
)

// P1205 and P1206: what is told of a link.

// tells holds who authenticates by what, and the peer's unit, against what they should be.
func tells(t *testing.T, what string, l *Lcp, peer, own, mru int) {
	t.Helper()
	if a, b := l.Auth(); a != peer || b != own {
		t.Errorf("%s: Auth() = %#x, %#x, not %#x, %#x", what, a, b, peer, own)
	}
	if got := l.Mru(); got != mru {
		t.Errorf("%s: Mru() = %d, not %d", what, got, mru)
	}
}

// What was agreed is told in Opened alone.
func TestP1205InEveryState(t *testing.T) {
	pap, chap := api.ProtoPap, api.ProtoChap
	for _, auth := range []int{0, pap, chap} {
		for value, own := range map[string]int{"": 0, byPap: pap, byChap: chap} {
			c := with(func(c *Config) { c.Auth, c.Mru = auth, 100 })
			theirs := []api.Option{opt(1, "\x01\x00")}
			if value != "" {
				theirs = append(theirs, opt(3, value))
			}
			l := in(t, c, api.AckRcvd)
			tells(t, "AckRcvd", l, 0, 0, 1492)
			l.Take(pk(api.ConfReq, 9, theirs...))
			is(t, "agreed", l, api.Opened)
			tells(t, "agreed", l, auth, own, 256)
			has(t, "agreed", l, Options(c), theirs)
			l.Take(pk(api.ConfReq, 10, theirs...))
			is(t, "asked again", l, api.AckSent)
			tells(t, "asked again", l, 0, 0, 1492)
			l.Take(pk(api.ConfAck, 2, Options(c)...))
			tells(t, "agreed again", l, auth, own, 256)
			l.Do(api.Down)
			tells(t, "down", l, 0, 0, 1492)
		}
	}
	for state, name := range states {
		l := in(t, with(func(c *Config) { c.Auth = pap }), state)
		if state == api.Opened {
			tells(t, name, l, pap, 0, 1492)
		} else {
			tells(t, name, l, 0, 0, 1492)
		}
	}
}

// What was taken over may be anything that options can be.
func TestP1205BehindAdopt(t *testing.T) {
	pap, chap := api.ProtoPap, api.ProtoChap
	for _, x := range []struct {
		what         string
		mine, theirs []api.Option
		peer, own    int
		mru          int
	}{
		{"nothing", nil, nil, 0, 0, 1492},
		{"PAP and CHAP", []api.Option{opt(3, byPap)}, []api.Option{opt(3, byChap)}, pap, chap, 1492},
		{"CHAP and PAP", []api.Option{opt(3, byChap)}, []api.Option{opt(3, byPap)}, chap, pap, 1492},
		{"no bytes", []api.Option{opt(3, "")}, []api.Option{opt(3, "")}, 0, 0, 1492},
		{"a byte fewer", []api.Option{opt(3, "\xc0")}, []api.Option{opt(3, "\xc2\x23")}, 0, 0, 1492},
		{"a byte more", []api.Option{opt(3, byPap+"\x00")}, []api.Option{opt(3, byChap+"\x00")}, 0, 0, 1492},
		{"a nought ahead", []api.Option{opt(3, "\x00"+byPap)}, []api.Option{opt(3, "\x00"+byChap)}, 0, 0, 1492},
		{"another digest", []api.Option{opt(3, "\xc2\x23\x81")}, []api.Option{opt(3, "\xc2\x23\x04")}, 0, 0, 1492},
		{"two, of which the first holds", []api.Option{opt(3, byPap), opt(3, byChap)}, []api.Option{opt(3, ""), opt(3, byPap)}, pap, 0, 1492},
		{"eight bytes", []api.Option{opt(3, strings.Repeat("\x00", 6)+byPap)}, []api.Option{opt(3, byChap+strings.Repeat("\x00", 250))}, 0, 0, 1492},
		{"other Types", []api.Option{opt(2, byPap), opt(13, byChap)}, []api.Option{opt(4, byPap), opt(2, "\x01\x00")}, 0, 0, 1492},
		{"a unit of mine", []api.Option{opt(1, "\x01\x00")}, nil, 0, 0, 1492},
		{"a unit", nil, []api.Option{opt(1, "\x01\x00")}, 0, 0, 256},
		{"a unit of 0", nil, []api.Option{opt(1, "\x00\x00")}, 0, 0, 0},
		{"a unit of 65535", nil, []api.Option{opt(1, "\xff\xff")}, 0, 0, 65535},
		{"a unit of no byte", nil, []api.Option{opt(1, "")}, 0, 0, 1492},
		{"a unit of one byte", nil, []api.Option{opt(1, "\x64")}, 0, 0, 1492},
		{"a unit of three bytes", nil, []api.Option{opt(1, "\x00\x00\x64")}, 0, 0, 1492},
		{"two units, of which the first holds", nil, []api.Option{opt(1, "\x00\x64"), opt(1, "\x00\xc8")}, 0, 0, 100},
		{"all of it", []api.Option{opt(5, seven), opt(3, byChap), opt(1, "\x00\x40")}, []api.Option{opt(5, "abcd"), opt(1, "\x03\x00"), opt(3, byPap)}, chap, pap, 768},
	} {
		for _, starts := range []bool{false, true} {
			l := made(t, with(func(c *Config) { c.Auth = pap }), nil)
			if starts {
				l.Do(api.Open)
			}
			if err := l.Adopt(x.mine, x.theirs); err != api.OK {
				t.Errorf("%s: Adopt = %d", x.what, err)
			}
			is(t, x.what, l, api.Opened)
			has(t, x.what, l, x.mine, x.theirs)
			came(t, x.what, l, 1, 0)
			tells(t, x.what, l, x.peer, x.own, x.mru)
			l.Do(api.Down)
			tells(t, x.what+", down", l, 0, 0, 1492)
		}
	}
}

func TestP1205AdoptErrors(t *testing.T) {
	many := make([]api.Option, 31)
	bad := []api.Option{opt(0, "")}
	for state, name := range states {
		l := in(t, config(), state)
		want := []api.Errno{api.ErrArg, api.ErrLong}
		if state > api.Starting {
			want = []api.Errno{api.ErrState, api.ErrState}
		}
		for i, err := range []api.Errno{l.Adopt(bad, many), l.Adopt(many, bad)} {
			if err != want[i] {
				t.Errorf("%s: Adopt = %d, not %d", name, err, want[i])
			}
		}
		is(t, name, l, state)
	}
}

// Do, State, Ups, Mine and Theirs as chapter 11 has them.
func TestP1205Do(t *testing.T) {
	l := made(t, config(), nil)
	is(t, "New", l, api.Initial)
	for _, event := range []int{api.ToPlus, api.RcrPlus, api.Rca, api.Rxr, -1, 16, 256 + api.Up, math.MinInt, math.MaxInt} {
		says(t, "no event", l.Do(event))
	}
	is(t, "no event", l, api.Initial)
	says(t, "Open", l.Do(api.Open))
	is(t, "Open", l, api.Starting)
	says(t, "Up", l.Do(api.Up), pk(api.ConfReq, 1, magic(seven)))
	is(t, "Up", l, api.ReqSent)
	l.Take(pk(api.ConfReq, 9, magic("abcd")))
	is(t, "AckSent", l, api.AckSent)
	has(t, "AckSent", l, nil, nil)
	l.Take(pk(api.ConfAck, 1, magic(seven)))
	has(t, "Opened", l, []api.Option{magic(seven)}, []api.Option{magic("abcd")})
	came(t, "Opened", l, 1, 0)
	says(t, "Close", l.Do(api.Close), bare(api.TermReq, 2, ""))
	came(t, "Close", l, 1, 1)
	has(t, "Close", l, nil, nil)
	says(t, "Down", l.Do(api.Down))
	is(t, "Down", l, api.Initial)
}

// What was handed in is not changed, and what is changed in it, or in what was told, changes nothing that is told later.
func TestP1205NothingIsShared(t *testing.T) {
	room := opt(99, "room")
	full := []api.Option{opt(3, byPap), opt(1, "\x00\x64"), room}
	request := pk(api.ConfReq, 8, full[:2]...)
	acked := []api.Option{magic(seven), room}
	draws := tape.New([]int{1, 2, 3, 4})
	l := on(t, config(), api.ReqSent, draws)
	nak := l.Take(pk(api.ConfReq, 7, magic(seven)))
	spoilPackets(nak)
	spoilPackets(l.Take(request))
	spoilPackets(l.Take(pk(api.ConfAck, 1, acked[:1]...)))
	if full[0] != opt(3, byPap) || full[1] != opt(1, "\x00\x64") || full[2] != room || acked[0] != magic(seven) || acked[1] != room {
		t.Errorf("Take changed what it was given: %v, %v", full, acked)
	}
	spoil(full)
	spoil(acked)
	for range 3 {
		has(t, "agreed", l, []api.Option{magic(seven)}, []api.Option{opt(3, byPap), opt(1, "\x00\x64")})
		tells(t, "agreed", l, 0, api.ProtoPap, 100)
		spoil(l.Mine())
		spoil(l.Theirs())
	}
	named := []api.Option{magic("abcd"), room}
	spoilPackets(l.Take(pk(api.ConfNak, 1, named[:1]...)))
	if named[0] != magic("abcd") || named[1] != room {
		t.Errorf("a nak was changed: %v", named)
	}
	spoil(named)
	says(t, "the request", l.Take(pk(api.ConfNak, 2)), pk(api.ConfReq, 3, magic("abcd")))
	l.Do(api.Down)
	mine, theirs := []api.Option{opt(3, byChap), room}, []api.Option{opt(1, "\x00\x65"), room}
	if err := l.Adopt(mine[:1], theirs[:1]); err != api.OK || mine[1] != room || theirs[1] != room {
		t.Errorf("Adopt = %d, and left %v, %v", err, mine, theirs)
	}
	spoil(mine)
	spoil(theirs)
	for range 3 {
		tells(t, "adopted", l, api.ProtoChap, 0, 101)
		has(t, "adopted", l, []api.Option{opt(3, byChap)}, []api.Option{opt(1, "\x00\x65")})
		spoil(l.Mine())
		spoil(l.Theirs())
	}
	spoilPackets(l.Take(bare(api.EchoReq, 1, "abcdef")))
	spoilPackets(l.Reject(1, "x"))
	says(t, "an echo", l.Take(bare(api.EchoReq, 1, "abcdef")), bare(api.EchoRep, 1, "abcdef"))
}

func TestP1206NilAndZero(t *testing.T) {
	for what, l := range map[string]*Lcp{"nil": nil, "zero": {}} {
		for range 3 {
			for event := -2; event < 20; event++ {
				says(t, what, l.Do(event))
			}
			for code := -2; code < 300; code++ {
				says(t, what, l.Take(bare(code, 1, "abcdef")))
				says(t, what, l.Take(pk(code, 1, magic(nought))))
				says(t, what, l.Take(pk(code, 0)))
			}
			says(t, what, l.Tick())
			says(t, what, l.Reject(1, "x"))
			says(t, what, l.Reject(-1, ""))
			for _, mine := range [][]api.Option{nil, {opt(0, "")}, make([]api.Option, 31)} {
				if err := l.Adopt(mine, nil); err != api.ErrArg {
					t.Errorf("%s: Adopt = %d", what, err)
				}
			}
			is(t, what, l, api.Initial)
			has(t, what, l, nil, nil)
			came(t, what, l, 0, 0)
			looped(t, what, l, 0)
			tells(t, what, l, 0, 0, 1492)
		}
	}
}
