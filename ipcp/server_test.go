package ipcp

import (
	"slices"
	"testing"

	"tollgate/api"
	"tollgate/neg"
)

// P1701: Server.

func TestP1701Example(t *testing.T) {
	n, err := Server(api.Addr{10, 0, 0, 1}, api.Addr{10, 0, 0, 7}, api.Addr{}, api.Addr{}, 5, 2, 5, 3)
	up(t, good(t, n, err))
	says(t, "noughts", n.Take(pk(api.ConfReq, 1, opt(3, nought))), pk(api.ConfNak, 1, opt(3, "\x0a\x00\x00\x07")))
	is(t, "noughts", n, api.ReqSent)
}

func TestP1701ServerAsks(t *testing.T) {
	for _, a := range edges() {
		for _, others := range []string{nought, peer, top} {
			n := server(t, a, others, others, others)
			is(t, "New", n, api.Initial)
			says(t, "Open", n.Do(api.Open))
			is(t, "Open", n, api.Starting)
			lays(t, "Up", n.Do(api.Up), "\x01\x01\x00\x0a\x03\x06"+a)
			is(t, "Up", n, api.ReqSent)
			says(t, "the ack", n.Take(pk(api.ConfAck, 1, opt(3, a))))
			is(t, "the ack", n, api.AckRcvd)
		}
	}
}

// step tells the address so many steps of one from another, as on a dial.
func step(s string, by byte) string {
	b := []byte(s)
	for i := 3; i >= 0; i-- {
		b[i] += by
		if by == 1 && b[i] != 0 || by == 255 && b[i] != 255 {
			break
		}
	}
	return string(b)
}

// Just peer is acked; whatever else is asked for, peer is named.
func TestP1701ServerAnswersAddresses(t *testing.T) {
	for _, gives := range edges() {
		n := up(t, server(t, own, gives, first, second))
		hold := func(what, asks string) {
			t.Helper()
			want := pk(api.ConfNak, 40, opt(3, gives))
			if asks == gives {
				want = pk(api.ConfAck, 40, opt(3, gives))
			}
			says(t, what, n.Take(pk(api.ConfReq, 40, opt(3, asks))), want)
		}
		hold("noughts", nought)
		hold("just peer", gives)
		hold("one less", step(gives, 255))
		hold("one more", step(gives, 1))
		hold("its own", own)
		hold("its name server", first)
		for _, a := range values() {
			hold("another value", a)
		}
		hold("a byte less", gives[:3])
		hold("a byte less, from the front", gives[1:])
		hold("a byte more", gives+"\x00")
		hold("a byte more, ahead of it", "\x00"+gives)
		for place := range 4 {
			for bit := range 8 {
				b := []byte(gives)
				b[place] ^= 1 << bit
				hold("a bit is another one", string(b))
			}
		}
		b := []byte(gives)
		slices.Reverse(b)
		hold("turned round", string(b))
		says(t, "twice", n.Take(pk(api.ConfReq, 41, list(3, gives, 3, gives)...)), pk(api.ConfRej, 41, opt(3, gives)))
		says(t, "none", n.Take(pk(api.ConfReq, 42)), pk(api.ConfAck, 42))
	}
}

// gifts is what a server gives, by kinds; an address of noughts is none, if it is a name server's.
type gifts struct{ peer, dns1, dns2 string }

func (g gifts) of(kind int) (string, bool) {
	switch kind {
	case 3:
		return g.peer, true
	case 129:
		return g.dns1, g.dns1 != nought
	case 131:
		return g.dns2, g.dns2 != nought
	}
	return "", false
}

// answer tells what is said to a request: what can't be given is rejected, what is another thing is named.
func (g gifts) answer(l []api.Option) (int, []api.Option) {
	var strange, named []api.Option
	for i, o := range l {
		gift, ok := g.of(o.Type)
		again := slices.ContainsFunc(l[:i], func(x api.Option) bool { return x.Type == o.Type })
		switch {
		case !ok || again:
			strange = append(strange, o)
		case o.Value != gift:
			named = append(named, opt(o.Type, gift))
		}
	}
	if strange != nil {
		return api.ConfRej, strange
	}
	if named != nil {
		return api.ConfNak, named
	}
	return api.ConfAck, l
}

// Name servers, where there are some and where not, in each order, with and without an address.
func TestP1701ServerAnswersNameServers(t *testing.T) {
	asks := []string{"-", nought, first, second, peer, "\xc0\xa8\x07", first + "\x00"} // "-": not asked for
	for _, g := range []gifts{
		{peer, nought, nought}, {peer, first, nought}, {peer, nought, second}, {peer, first, second},
		{peer, second, first}, {peer, first, first}, {first, first, second}, {nought, first, nought}, {nought, nought, nought},
		{top, top, one}, {one, one, top},
	} {
		n := up(t, server(t, own, g.peer, g.dns1, g.dns2))
		for _, a := range []string{"-", nought, g.peer, own} {
			for _, b := range asks {
				for _, c := range append(asks, g.dns1, g.dns2) {
					var l []api.Option
					for i, value := range []string{a, b, c} {
						if value != "-" {
							l = append(l, opt([]int{3, 129, 131}[i], value))
						}
					}
					for _, turned := range orders(l) {
						code, want := g.answer(turned)
						says(t, "a request", n.Take(pk(api.ConfReq, 40, turned...)), pk(code, 40, want...))
					}
				}
			}
		}
	}
}

// The same, written out.
func TestP1701ServerAnswersWrittenOut(t *testing.T) {
	for _, x := range []struct {
		what       string
		dns1, dns2 string
		l          []api.Option
		code       int
		want       []api.Option
	}{
		{"all named", first, second, list(3, nought, 129, nought, 131, nought), api.ConfNak, list(3, peer, 129, first, 131, second)},
		{"all named, turned round", first, second, list(131, nought, 129, nought, 3, nought), api.ConfNak, list(131, second, 129, first, 3, peer)},
		{"all good", first, second, list(3, peer, 129, first, 131, second), api.ConfAck, list(3, peer, 129, first, 131, second)},
		{"all good, turned round", first, second, list(131, second, 3, peer, 129, first), api.ConfAck, list(131, second, 3, peer, 129, first)},
		{"one for the other", first, second, list(129, second, 131, first), api.ConfNak, list(129, first, 131, second)},
		{"the first is not given", nought, second, list(3, nought, 129, nought, 131, nought), api.ConfRej, list(129, nought)},
		{"the second is not given", first, nought, list(3, nought, 129, nought, 131, nought), api.ConfRej, list(131, nought)},
		{"neither is given", nought, nought, list(3, nought, 129, nought, 131, nought), api.ConfRej, list(129, nought, 131, nought)},
		{"neither is given, turned round", nought, nought, list(131, first, 3, peer, 129, first), api.ConfRej, list(131, first, 129, first)},
		{"name servers alone", first, second, list(129, nought, 131, second), api.ConfNak, list(129, first)},
		{"the one alone", first, nought, list(129, first), api.ConfAck, list(129, first)},
		{"the other alone", nought, second, list(131, second), api.ConfAck, list(131, second)},
		{"3 bytes", first, second, list(129, "\xc0\xa8\x07"), api.ConfNak, list(129, first)},
		{"5 bytes", first, second, list(131, second+"\x00"), api.ConfNak, list(131, second)},
		{"twice", first, second, list(129, first, 129, first), api.ConfRej, list(129, first)},
		{"no rule", first, second, list(130, first, 3, nought, 132, second), api.ConfRej, list(130, first, 132, second)},
		{"the least", one, top, list(129, nought, 131, one), api.ConfNak, list(129, one, 131, top)},
	} {
		n := up(t, server(t, own, peer, x.dns1, x.dns2))
		says(t, x.what, n.Take(pk(api.ConfReq, 40, x.l...)), pk(x.code, 40, x.want...))
	}
}

// Each bit of a name server counts, and each byte of it has its place.
func TestP1701ServerNameServersOfEveryBit(t *testing.T) {
	for _, a := range edges()[1:] {
		for _, kind := range []int{129, 131} {
			n := up(t, server(t, own, peer, a, a))
			says(t, "just that", n.Take(pk(api.ConfReq, 1, opt(kind, a))), pk(api.ConfAck, 1, opt(kind, a)))
			for place := range 4 {
				for bit := range 8 {
					b := []byte(a)
					b[place] ^= 1 << bit
					says(t, "a bit is another one", n.Take(pk(api.ConfReq, 2, opt(kind, string(b)))), pk(api.ConfNak, 2, opt(kind, a)))
				}
			}
		}
	}
}

// What a server asks for it may be refused: nothing must be there, and nothing is changed by a nak.
func TestP1701ServerRefused(t *testing.T) {
	for _, a := range edges() {
		for what, p := range map[string]api.Packet{
			"a reject":                pk(api.ConfRej, 1, opt(3, a)),
			"a nak, of noughts":       pk(api.ConfNak, 1, opt(3, nought)),
			"a nak, of another":       pk(api.ConfNak, 1, opt(3, "\x09\x08\x07\x06")),
			"a nak, of the same":      pk(api.ConfNak, 1, opt(3, a)),
			"a nak, of 3 bytes":       pk(api.ConfNak, 1, opt(3, a[:3])),
			"a nak, of that and more": pk(api.ConfNak, 1, list(129, first, 3, peer, 131, second)...),
		} {
			n := up(t, server(t, a, peer, first, second))
			says(t, what, n.Take(p), pk(api.ConfReq, 2))
			is(t, what, n, api.ReqSent)
			says(t, what, n.Take(pk(api.ConfReq, 40, opt(3, peer))), pk(api.ConfAck, 40, opt(3, peer)))
			says(t, what, n.Take(pk(api.ConfAck, 2)))
			is(t, what, n, api.Opened)
			has(t, what, n, nil, list(3, peer))
		}
		for what, p := range map[string]api.Packet{
			"another Id":         pk(api.ConfRej, 2, opt(3, a)),
			"another value":      pk(api.ConfRej, 1, opt(3, step(a, 1))),
			"a name server":      pk(api.ConfRej, 1, opt(129, first)),
			"that and more":      pk(api.ConfRej, 1, opt(3, a), opt(129, first)),
			"a nak's other Id":   pk(api.ConfNak, 0, opt(3, peer)),
			"an ack of another":  pk(api.ConfAck, 1, opt(3, step(a, 1))),
			"an ack of nothing":  pk(api.ConfAck, 1),
			"an ack of too much": pk(api.ConfAck, 1, opt(3, a), opt(129, first)),
		} {
			n := up(t, server(t, a, peer, first, second))
			says(t, what, n.Take(p))
			is(t, what, n, api.ReqSent)
		}
		n := up(t, server(t, a, peer, first, second))
		says(t, "a nak of others", n.Take(pk(api.ConfNak, 1, list(129, first, 131, second)...)), pk(api.ConfReq, 2, opt(3, a)))
		says(t, "a nak of none", n.Take(pk(api.ConfNak, 2)), pk(api.ConfReq, 3, opt(3, a)))
	}
}

// Behind as many naks as Fails what did not fit is rejected as it was asked for, until a request was good.
func TestP1701ServerFails(t *testing.T) {
	for _, fails := range []int{1, 2, 20} {
		n, err := Server(addr(own), addr(peer), addr(first), api.Addr{}, 20, 2, fails, 3)
		up(t, good(t, n, err))
		for range 2 {
			for range fails {
				says(t, "up to Fails", n.Take(pk(api.ConfReq, 4, list(3, own, 129, first)...)), pk(api.ConfNak, 4, opt(3, peer)))
				says(t, "a reject counts as none", n.Take(pk(api.ConfReq, 5, list(3, own, 131, first)...)), pk(api.ConfRej, 5, opt(131, first)))
			}
			says(t, "behind Fails", n.Take(pk(api.ConfReq, 6, list(3, own, 129, first)...)), pk(api.ConfRej, 6, opt(3, own)))
			says(t, "behind Fails, both", n.Take(pk(api.ConfReq, 7, list(129, own, 3, "abc")...)), pk(api.ConfRej, 7, list(129, own, 3, "abc")...))
			says(t, "a good one", n.Take(pk(api.ConfReq, 8, list(129, first, 3, peer)...)), pk(api.ConfAck, 8, list(129, first, 3, peer)...))
		}
	}
}

// serverByHand tells the setup that the promise names.
func serverByHand(own string, g gifts) neg.Setup {
	just := func(kind int, a string) api.Rule {
		v := ((int(a[0])*256+int(a[1]))*256+int(a[2]))*256 + int(a[3])
		return api.Rule{Type: kind, Len: 4, Min: v, Max: v, Suggest: a}
	}
	s := neg.Setup{Ask: list(3, own), Peer: []api.Rule{just(3, g.peer)}}
	if g.dns1 != nought {
		s.Peer = append(s.Peer, just(129, g.dns1))
	}
	if g.dns2 != nought {
		s.Peer = append(s.Peer, just(131, g.dns2))
	}
	return s
}
