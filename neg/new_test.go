package neg

import (
	"math"
	"slices"
	"strings"
	"testing"

	"tollgate/api"
)

// P1102.

// refused holds that New answers an error, and nothing beside it.
func refused(t *testing.T, what string, s Setup, want api.Errno) {
	t.Helper()
	if n, err := New(s); n != nil || err != want {
		t.Errorf("%s: New = %v, %d, not %d", what, n, err, want)
	}
}

func TestP1102Numbers(t *testing.T) {
	for _, x := range []struct {
		what        string
		least, most int
		set         func(*Setup, int)
	}{
		{"Configure", 1, 20, func(s *Setup, v int) { s.Configure = v }},
		{"Terminate", 1, 20, func(s *Setup, v int) { s.Terminate = v }},
		{"Fails", 0, 20, func(s *Setup, v int) { s.Fails = v }},
		{"Wait", 1, 100, func(s *Setup, v int) { s.Wait = v }},
	} {
		all := []int{math.MinInt, math.MinInt + 1, math.MaxInt, 1 << 8, 1<<8 + 5, 1<<16 + 5, 1<<32 + 5, 5 - 1<<32}
		for v := -3; v < 130; v++ {
			all = append(all, v)
		}
		for _, v := range all {
			s := setup()
			x.set(&s, v)
			if v < x.least || v > x.most {
				refused(t, x.what, s, api.ErrArg)
				s.Ask = many(31) // numbers are looked at ahead of what is asked for
				refused(t, x.what, s, api.ErrArg)
				continue
			}
			n := made(t, s)
			is(t, x.what, n, api.Initial)
			came(t, x.what, n, 0, 0)
			has(t, x.what, n, nil, nil)
		}
	}
}

func TestP1102Ask(t *testing.T) {
	wide := func(n int) []api.Option { return []api.Option{opt(1, strings.Repeat("x", n))} }
	var thirty []api.Option
	for i := range 30 {
		thirty = append(thirty, opt(255-i, "v"))
	}
	for _, x := range []struct {
		what string
		ask  []api.Option
		want api.Errno
	}{
		{"nil", nil, api.OK},
		{"none", []api.Option{}, api.OK},
		{"a Type of 0", []api.Option{opt(0, "")}, api.ErrArg},
		{"a Type of -1", []api.Option{opt(-1, "")}, api.ErrArg},
		{"a Type of 1", []api.Option{opt(1, "")}, api.OK},
		{"a Type of 255", []api.Option{opt(255, "")}, api.OK},
		{"a Type of 256", []api.Option{opt(256, "")}, api.ErrArg},
		{"a Value of 253 bytes", wide(253), api.OK},
		{"a Value of 254 bytes", wide(254), api.ErrArg},
		{"30", thirty, api.OK},
		{"31", append(slices.Clone(thirty), opt(1, "")), api.ErrLong},
		{"31 of one Type", many(31), api.ErrLong},
		{"30 of one Type", many(30), api.ErrArg},
		{"two of one Type", []api.Option{opt(1, "\x04\x00"), opt(1, "\x04\x00")}, api.ErrArg},
		{"two of one Type, unlike", []api.Option{opt(1, "a"), opt(2, "b"), opt(1, "c")}, api.ErrArg},
		{"the last two of one Type", append(slices.Clone(thirty[:29]), thirty[28]), api.ErrArg},
		{"one that no rule of Own lets be", []api.Option{opt(5, "far too long")}, api.OK},
	} {
		s := setup()
		s.Ask = x.ask
		if x.want != api.OK {
			refused(t, x.what, s, x.want)
			s.Own[0].Suggest = "bad" // Ask's error is told ahead of this one
			refused(t, x.what, s, x.want)
			continue
		}
		n := made(t, s)
		n.Do(api.Open)
		says(t, x.what, n.Do(api.Up), pk(api.ConfReq, 1, x.ask...))
	}
}

func TestP1102Rules(t *testing.T) {
	wide := func(n int) api.Rule {
		return api.Rule{Type: 1, Len: n, Max: math.MaxInt, Suggest: strings.Repeat("x", n)}
	}
	for _, x := range []struct {
		what string
		rule api.Rule
		good bool
	}{
		{"zero", api.Rule{}, true},
		{"a Suggest of 252 bytes", wide(252), true},
		{"a Suggest of 253 bytes", wide(253), true},
		{"a Suggest of 254 bytes", wide(254), false},
		{"a Suggest of 255 bytes", wide(255), false},
		{"a Suggest of 65536 bytes", wide(65536), false},
		{"a Suggest a byte short", api.Rule{Type: 1, Len: 2, Max: 255, Suggest: "\x01"}, false},
		{"a Suggest a byte long", api.Rule{Type: 1, Len: 2, Max: 255, Suggest: "\x00\x00\x01"}, false},
		{"no Suggest", api.Rule{Type: 1, Len: 2, Max: 255}, false},
		{"no Suggest, no Len", api.Rule{Type: 1}, true},
		{"Len -1", api.Rule{Type: 1, Len: -1}, false},
		{"a Suggest at Min", api.Rule{Type: 1, Len: 1, Min: 7, Max: 9, Suggest: "\x07"}, true},
		{"a Suggest below Min", api.Rule{Type: 1, Len: 1, Min: 7, Max: 9, Suggest: "\x06"}, false},
		{"a Suggest at Max", api.Rule{Type: 1, Len: 1, Min: 7, Max: 9, Suggest: "\x09"}, true},
		{"a Suggest above Max", api.Rule{Type: 1, Len: 1, Min: 7, Max: 9, Suggest: "\x0a"}, false},
		{"Min above Max", api.Rule{Type: 1, Len: 1, Min: 9, Max: 7, Suggest: "\x08"}, false},
		{"a Type that no packet has", api.Rule{Type: -300, Len: 1, Max: 9, Suggest: "\x08"}, true},
	} {
		for _, put := range []func(*Setup){
			func(s *Setup) { s.Own = []api.Rule{x.rule} },
			func(s *Setup) { s.Peer = []api.Rule{x.rule} },
			func(s *Setup) { s.Own = append(s.Own, x.rule) }, // behind another one of its Type, too
			func(s *Setup) { s.Peer = append(s.Peer, x.rule) },
			func(s *Setup) { s.Own, s.Peer = append([]api.Rule{x.rule}, s.Own...), nil },
		} {
			s := setup()
			put(&s)
			if x.good {
				made(t, s)
			} else {
				refused(t, x.what, s, api.ErrArg)
			}
		}
	}
}

func TestP1102NoRulesNoMust(t *testing.T) {
	n := made(t, Setup{Configure: 1, Terminate: 1, Wait: 1})
	n.Do(api.Open)
	says(t, "Up", n.Do(api.Up), pk(api.ConfReq, 1))
	says(t, "a request", n.Take(pk(api.ConfReq, 3, opt(1, "a"))), pk(api.ConfRej, 3, opt(1, "a")))
	says(t, "an empty one", n.Take(pk(api.ConfReq, 4)), pk(api.ConfAck, 4))
	says(t, "an ack", n.Take(pk(api.ConfAck, 1)))
	is(t, "an ack", n, api.Opened)
}

// Must may hold any numbers.
func TestP1102Must(t *testing.T) {
	s := setup()
	s.Must = []int{math.MinInt, -1, 0, 9, 9, 256 + 5, math.MaxInt}
	n := in(t, s, api.ReqSent)
	says(t, "5 is none of them", n.Take(pk(api.ConfRej, 1, opt(5, "mm"))), pk(api.ConfReq, 2, opt(1, "\x04\x00"), opt(7, "q"), opt(9, "z")))
}

// A Setup is not kept, and not changed, its spare room neither.
func TestP1102NothingIsShared(t *testing.T) {
	s := setup()
	full := Setup{Ask: append(s.Ask, opt(20, "r")), Own: append(s.Own, unit()), Peer: append(s.Peer, unit()), Must: append(s.Must, 77)}
	given := setup()
	given.Ask, given.Own, given.Peer, given.Must = full.Ask[:4], full.Own[:3], full.Peer[:2], full.Must[:2]
	n := made(t, given)
	says(t, "Up", append(n.Do(api.Up), n.Do(api.Open)...), pk(api.ConfReq, 1, ask()...))
	n.Take(pk(api.ConfRej, 1, opt(1, "\x04\x00")))
	n.Take(pk(api.ConfNak, 2, opt(5, "nn")))
	want := setup()
	if !slices.Equal(full.Ask, append(want.Ask, opt(20, "r"))) || !slices.Equal(full.Own, append(want.Own, unit())) || !slices.Equal(full.Peer, append(want.Peer, unit())) || !slices.Equal(full.Must, append(want.Must, 77)) {
		t.Errorf("what New was given was changed: %+v", full)
	}
	spoil(full.Ask)
	for i := range full.Own {
		full.Own[i] = api.Rule{}
	}
	for i := range full.Peer {
		full.Peer[i] = api.Rule{}
	}
	full.Must[0], full.Must[1] = 5, 7
	says(t, "the request", n.Take(pk(api.ConfNak, 3, opt(5, "oo"))), pk(api.ConfReq, 4, opt(5, "oo"), opt(7, "q"), opt(9, "z")))
	says(t, "the peer's rules", n.Take(pk(api.ConfReq, 9, opt(3, "\x07"))), pk(api.ConfAck, 9, opt(3, "\x07")))
	n.Take(pk(api.ConfRej, 4, opt(9, "z")))
	is(t, "what must be", n, api.Stopped)
}

// Negotiations of one Setup know nothing of each other.
func TestP1102EachItsOwn(t *testing.T) {
	s := setup()
	a, b := made(t, s), made(t, s)
	a.Do(api.Up)
	a.Do(api.Open)
	a.Take(pk(api.ConfNak, 1, opt(1, "\x00\x64"), opt(7, "")))
	is(t, "the other one", b, api.Initial)
	b.Do(api.Up)
	says(t, "the other one", b.Do(api.Open), pk(api.ConfReq, 1, ask()...))
	says(t, "the one", a.Take(pk(api.ConfNak, 2)), pk(api.ConfReq, 3, opt(1, "\x00\x64"), opt(5, "mm"), opt(9, "z")))
}
