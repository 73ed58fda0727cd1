package ipcp

import (
	"testing"

	"tollgate/api"
	"tollgate/neg"
)

// P1701: Client.

// asked tells what a client asks for first.
func asked(dns bool) []api.Option {
	if dns {
		return list(3, nought, 129, nought, 131, nought)
	}
	return list(3, nought)
}

func TestP1701ClientAsks(t *testing.T) {
	for dns, want := range map[bool]string{
		false: "\x01\x01\x00\x0a\x03\x06\x00\x00\x00\x00",
		true:  "\x01\x01\x00\x16\x03\x06\x00\x00\x00\x00\x81\x06\x00\x00\x00\x00\x83\x06\x00\x00\x00\x00",
	} {
		n := client(t, dns)
		is(t, "New", n, api.Initial)
		says(t, "Open", n.Do(api.Open))
		is(t, "Open", n, api.Starting)
		lays(t, "Up", n.Do(api.Up), want)
		is(t, "Up", n, api.ReqSent)
		has(t, "Up", n, nil, nil)
		says(t, "the ack", n.Take(pk(api.ConfAck, 1, asked(dns)...)))
		is(t, "the ack", n, api.AckRcvd)
	}
}

// left tells what of an option that is asked for is left behind a nak of a value: that value, the old one, or none.
func left(o api.Option, value string) []api.Option {
	if len(value) == 4 && value != nought {
		return list(o.Type, value)
	}
	if o.Type == 3 {
		return []api.Option{o} // which must be there
	}
	return nil
}

// values are what may be named in a nak, good and bad.
func values() []string { return append(edges(), wrongLong()...) }

// A nak of each option by itself; of one that was not asked for it says nothing.
func TestP1701ClientNaks(t *testing.T) {
	for _, dns := range []bool{false, true} {
		for _, kind := range []int{3, 129, 131, 1, 2, 4, 130, 255} {
			for _, value := range values() {
				var want []api.Option
				for _, o := range asked(dns) {
					if o.Type == kind {
						want = append(want, left(o, value)...)
					} else {
						want = append(want, o)
					}
				}
				n := up(t, client(t, dns))
				says(t, "a nak", n.Take(pk(api.ConfNak, 1, opt(kind, value))), pk(api.ConfReq, 2, want...))
				is(t, "a nak", n, api.ReqSent)
				says(t, "the ack", n.Take(pk(api.ConfAck, 2, want...)))
				is(t, "the ack", n, api.AckRcvd)
			}
		}
	}
}

// The same, written out: of noughts, of 0.0.0.1, of 255.255.255.255, of 3 and of 5 bytes.
func TestP1701ClientNaksWrittenOut(t *testing.T) {
	for _, x := range []struct {
		kind  int
		value string
		want  []api.Option
	}{
		{3, nought, list(3, nought, 129, nought, 131, nought)},
		{3, one, list(3, one, 129, nought, 131, nought)},
		{3, top, list(3, top, 129, nought, 131, nought)},
		{3, "\x01\x02\x03", list(3, nought, 129, nought, 131, nought)},
		{3, "\x01\x02\x03\x04\x05", list(3, nought, 129, nought, 131, nought)},
		{129, nought, list(3, nought, 131, nought)},
		{129, one, list(3, nought, 129, one, 131, nought)},
		{129, top, list(3, nought, 129, top, 131, nought)},
		{129, "\x01\x02\x03", list(3, nought, 131, nought)},
		{129, "\x01\x02\x03\x04\x05", list(3, nought, 131, nought)},
		{131, nought, list(3, nought, 129, nought)},
		{131, one, list(3, nought, 129, nought, 131, one)},
		{131, top, list(3, nought, 129, nought, 131, top)},
		{131, "\x01\x02\x03", list(3, nought, 129, nought)},
		{131, "\x01\x02\x03\x04\x05", list(3, nought, 129, nought)},
	} {
		n := up(t, client(t, true))
		says(t, "a nak", n.Take(pk(api.ConfNak, 1, opt(x.kind, x.value))), pk(api.ConfReq, 2, x.want...))
	}
}

// A nak of several, in each order: each of them is taken by itself.
func TestP1701ClientNaksOfSeveral(t *testing.T) {
	some := []string{nought, one, top, peer, "\x0a\x14\x1e", peer + "\x00", "-"} // "-": not named
	for _, a := range some {
		for _, b := range some {
			for _, c := range some {
				var named, want []api.Option
				for i, value := range []string{a, b, c} {
					o := asked(true)[i]
					if value == "-" {
						want = append(want, o)
						continue
					}
					named = append(named, opt(o.Type, value))
					want = append(want, left(o, value)...)
				}
				for _, l := range orders(named) {
					n := up(t, client(t, true))
					says(t, "a nak", n.Take(pk(api.ConfNak, 1, l...)), pk(api.ConfReq, 2, want...))
				}
			}
		}
	}
}

// Naks one behind the other, and of one option twice: the last word holds, but what went does not come back.
func TestP1701ClientNaksAgain(t *testing.T) {
	for _, x := range []struct {
		what string
		naks [][]api.Option
		want []api.Option
	}{
		{"another address", [][]api.Option{list(3, peer), list(3, own)}, list(3, own, 129, nought, 131, nought)},
		{"noughts do not take an address back", [][]api.Option{list(3, peer), list(3, nought)}, list(3, peer, 129, nought, 131, nought)},
		{"another name server", [][]api.Option{list(129, first), list(129, second)}, list(3, nought, 129, second, 131, nought)},
		{"noughts take a name server away", [][]api.Option{list(129, first), list(129, nought)}, list(3, nought, 131, nought)},
		{"it does not come back", [][]api.Option{list(131, nought), list(131, second)}, list(3, nought, 129, nought)},
		{"an address twice", [][]api.Option{list(3, peer, 3, own)}, list(3, own, 129, nought, 131, nought)},
		{"a good one and a bad one", [][]api.Option{list(3, peer, 3, nought)}, list(3, peer, 129, nought, 131, nought)},
		{"a bad one and a good one", [][]api.Option{list(3, "abc", 3, peer)}, list(3, peer, 129, nought, 131, nought)},
		{"a name server, good and bad", [][]api.Option{list(129, first, 129, "abc")}, list(3, nought, 131, nought)},
		{"a name server, bad and good", [][]api.Option{list(129, "abc", 129, first)}, list(3, nought, 131, nought)},
		{"each in its own", [][]api.Option{list(131, second), list(3, peer), list(129, first)}, list(3, peer, 129, first, 131, second)},
		{"none", [][]api.Option{nil}, list(3, nought, 129, nought, 131, nought)},
		{"others", [][]api.Option{list(9, "x", 3, peer, 130, first)}, list(3, peer, 129, nought, 131, nought)},
	} {
		n := up(t, client(t, true))
		var got []api.Packet
		for i, l := range x.naks {
			got = n.Take(pk(api.ConfNak, i+1, l...))
		}
		says(t, x.what, got, pk(api.ConfReq, len(x.naks)+1, x.want...))
	}
	n := up(t, client(t, true))
	says(t, "another Id", n.Take(pk(api.ConfNak, 2, opt(3, peer))))
	says(t, "the last Id", n.Take(pk(api.ConfNak, 1)), pk(api.ConfReq, 2, asked(true)...))
}

// Every value of every byte of an address that is named comes to its place.
func TestP1701ClientNaksOfEveryByte(t *testing.T) {
	for place := range 4 {
		for v := range 256 {
			b := []byte(nought)
			b[place] = byte(v)
			for _, kind := range []int{3, 129, 131} {
				var want []api.Option
				for _, o := range asked(true) {
					if o.Type == kind {
						want = append(want, left(o, string(b))...)
					} else {
						want = append(want, o)
					}
				}
				n := up(t, client(t, true))
				says(t, "a nak", n.Take(pk(api.ConfNak, 1, opt(kind, string(b)))), pk(api.ConfReq, 2, want...))
			}
		}
	}
}

// Name servers may be done without; an address may not.
func TestP1701ClientRejs(t *testing.T) {
	a, b, c := opt(3, nought), opt(129, nought), opt(131, nought)
	next := func(l ...api.Option) []api.Packet { return []api.Packet{pk(api.ConfReq, 2, l...)} }
	for _, x := range []struct {
		what  string
		dns   bool
		l     []api.Option
		want  []api.Packet
		state int
	}{
		{"the first name server", true, []api.Option{b}, next(a, c), api.ReqSent},
		{"the second", true, []api.Option{c}, next(a, b), api.ReqSent},
		{"both", true, []api.Option{b, c}, next(a), api.ReqSent},
		{"both, turned round", true, []api.Option{c, b}, nil, api.ReqSent},
		{"none", true, nil, next(a, b, c), api.ReqSent},
		{"of another value", true, []api.Option{opt(129, one)}, nil, api.ReqSent},
		{"of 3 bytes", true, []api.Option{opt(129, "\x00\x00\x00")}, nil, api.ReqSent},
		{"one twice", true, []api.Option{b, b}, nil, api.ReqSent},
		{"one that was not asked for", true, []api.Option{b, opt(9, "")}, nil, api.ReqSent},
		{"the address", true, []api.Option{a}, nil, api.Stopped},
		{"the address and the first", true, []api.Option{a, b}, nil, api.Stopped},
		{"the address and the second", true, []api.Option{a, c}, nil, api.Stopped},
		{"all", true, []api.Option{a, b, c}, nil, api.Stopped},
		{"all, turned round", true, []api.Option{c, b, a}, nil, api.ReqSent},
		{"the address, of another value", true, []api.Option{opt(3, one)}, nil, api.ReqSent},
		{"the address alone", false, []api.Option{a}, nil, api.Stopped},
		{"none, without dns", false, nil, next(a), api.ReqSent},
		{"a name server, without dns", false, []api.Option{b}, nil, api.ReqSent},
		{"all, without dns", false, []api.Option{a, b, c}, nil, api.ReqSent},
	} {
		n := up(t, client(t, x.dns))
		says(t, x.what+", another Id", n.Take(pk(api.ConfRej, 0, x.l...)))
		is(t, x.what+", another Id", n, api.ReqSent)
		says(t, x.what, n.Take(pk(api.ConfRej, 1, x.l...)), x.want...)
		is(t, x.what, n, x.state)
		if x.want != nil {
			continue
		}
		// What was not taken off is asked for again.
		n.Do(api.Down)
		says(t, x.what+", up again", n.Do(api.Up), pk(api.ConfReq, 2, asked(x.dns)...))
	}
}

// The address must be there also when it was named, and where it had been agreed.
func TestP1701ClientRejsLater(t *testing.T) {
	n := up(t, client(t, true))
	n.Take(pk(api.ConfNak, 1, list(3, peer, 129, first)...))
	says(t, "what stood there before", n.Take(pk(api.ConfRej, 2, opt(129, nought))))
	says(t, "what stands there", n.Take(pk(api.ConfRej, 2, opt(129, first))), pk(api.ConfReq, 3, list(3, peer, 131, nought)...))
	says(t, "the other one", n.Take(pk(api.ConfRej, 3, opt(131, nought))), pk(api.ConfReq, 4, opt(3, peer)))
	says(t, "the address of before", n.Take(pk(api.ConfRej, 4, opt(3, nought))))
	is(t, "the address of before", n, api.ReqSent)
	says(t, "the address", n.Take(pk(api.ConfRej, 4, opt(3, peer))))
	is(t, "the address", n, api.Stopped)

	n = up(t, client(t, false))
	n.Take(pk(api.ConfReq, 9, opt(3, own)))
	n.Take(pk(api.ConfAck, 1, opt(3, nought)))
	is(t, "agreed", n, api.Opened)
	says(t, "the address, where it was agreed", n.Take(pk(api.ConfRej, 1, opt(3, nought))), bare(api.TermReq, 2, ""))
	is(t, "the address, where it was agreed", n, api.Stopping)
}

// What a client answers: any address of four bytes is good, and no other option.
func TestP1701ClientAnswers(t *testing.T) {
	for _, dns := range []bool{false, true} {
		hold := func(what string, code int, want []api.Option, l ...api.Option) {
			t.Helper()
			n := up(t, client(t, dns))
			says(t, what, n.Take(pk(api.ConfReq, 40, l...)), pk(code, 40, want...))
			if code == api.ConfAck {
				is(t, what, n, api.AckSent)
				n.Take(pk(api.ConfAck, 1, asked(dns)...))
				has(t, what, n, asked(dns), l)
			} else {
				is(t, what, n, api.ReqSent)
			}
		}
		hold("nothing", api.ConfAck, nil)
		for _, a := range edges() {
			hold("an address", api.ConfAck, list(3, a), list(3, a)...)
			hold("twice", api.ConfRej, list(3, a), list(3, a, 3, a)...)
			hold("another behind it", api.ConfRej, list(3, own), list(3, a, 3, own)...)
			hold("an address thrice", api.ConfRej, list(3, peer, 3, "abc"), list(3, a, 3, peer, 3, "abc")...)
			for _, kind := range []int{1, 2, 4, 129, 130, 131, 132, 255} {
				hold("no rule", api.ConfRej, list(kind, a), list(kind, a)...)
				hold("no rule, behind an address", api.ConfRej, list(kind, a), list(3, a, kind, a)...)
				hold("no rule, ahead of it", api.ConfRej, list(kind, a), list(kind, a, 3, a)...)
			}
		}
		for _, a := range wrongLong() {
			hold("not four bytes", api.ConfNak, list(3, nought), list(3, a)...)
			hold("not four bytes, twice", api.ConfRej, list(3, a), list(3, a, 3, a)...)
			hold("not four bytes, and no rule", api.ConfRej, list(9, ""), list(3, a, 9, "")...)
			hold("no rule, not four bytes", api.ConfRej, list(129, a), list(129, a)...)
		}
		hold("all three", api.ConfRej, list(129, first, 131, second), list(3, own, 129, first, 131, second)...)
	}
}

// Every value of every byte is an address.
func TestP1701ClientAnswersEveryByte(t *testing.T) {
	n := up(t, client(t, true))
	for _, around := range []byte{0, 1, 127, 128, 255} {
		for place := range 4 {
			for v := range 256 {
				b := []byte{around, around, around, around}
				b[place] = byte(v)
				o := opt(3, string(b))
				says(t, "an address", n.Take(pk(api.ConfReq, v, o)), pk(api.ConfAck, v, o))
			}
		}
	}
}

// Behind as many naks as Fails what did not fit is rejected as it was asked for, until a request was good.
func TestP1701ClientFails(t *testing.T) {
	for _, fails := range []int{1, 2, 20} {
		n, err := Client(20, 2, fails, 3, true)
		up(t, good(t, n, err))
		for range 2 {
			for range fails {
				says(t, "up to Fails", n.Take(pk(api.ConfReq, 4, opt(3, "abc"))), pk(api.ConfNak, 4, opt(3, nought)))
			}
			says(t, "behind Fails", n.Take(pk(api.ConfReq, 5, opt(3, "abc"))), pk(api.ConfRej, 5, opt(3, "abc")))
			says(t, "no rule", n.Take(pk(api.ConfReq, 6, opt(3, "abc"), opt(9, ""))), pk(api.ConfRej, 6, opt(9, "")))
			says(t, "a good one", n.Take(pk(api.ConfReq, 7, opt(3, own))), pk(api.ConfAck, 7, opt(3, own)))
		}
	}
}

// clientByHand tells the setup that the promise names.
func clientByHand(dns bool) neg.Setup {
	return neg.Setup{
		Ask: asked(dns),
		Own: []api.Rule{
			{Type: 3, Len: 4, Min: 1, Max: 4294967295, Suggest: one},
			{Type: 129, Len: 4, Min: 1, Max: 4294967295, Suggest: one},
			{Type: 131, Len: 4, Min: 1, Max: 4294967295, Suggest: one},
		},
		Peer: []api.Rule{{Type: 3, Len: 4, Min: 0, Max: 4294967295, Suggest: nought}},
		Must: []int{3},
	}
}
