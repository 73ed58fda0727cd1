package neg

import (
	"math"
	"slices"
	"testing"

	"tollgate/api"
	"tollgate/auto"
)

// P1104.

const nothing = -1 // no event

// hears is a packet that comes, the event that it should be, and the answer to it, if it is a request.
type hears struct {
	what   string
	came   api.Packet
	event  int
	answer api.Packet
	left   []api.Option // the request behind it, if that is another one
}

func everyHearing() []hears {
	good, low, strange := opt(1, "\x00\x64"), opt(1, "\x00\x01"), opt(8, "s")
	a := ask()
	out := []hears{
		{"a request", pk(api.ConfReq, 40, good), api.RcrPlus, pk(api.ConfAck, 40, good), nil},
		{"a request of nothing", pk(api.ConfReq, 1), api.RcrPlus, pk(api.ConfAck, 1), nil},
		{"a request of an Id that is none", pk(api.ConfReq, 4000), api.RcrPlus, pk(api.ConfAck, 4000), nil},
		{"a request that does not fit", pk(api.ConfReq, 40, low), api.RcrMinus, pk(api.ConfNak, 40, opt(1, "\x05\xd4")), nil},
		{"a request without a rule", pk(api.ConfReq, 40, low, strange), api.RcrMinus, pk(api.ConfRej, 40, strange), nil},
		{"an ack", pk(api.ConfAck, 1, a...), api.Rca, api.Packet{}, nil},
		{"an ack of nothing", pk(api.ConfAck, 1), nothing, api.Packet{}, nil},
		{"an ack of less", pk(api.ConfAck, 1, a[:3]...), nothing, api.Packet{}, nil},
		{"an ack of more", pk(api.ConfAck, 1, append(ask(), good)...), nothing, api.Packet{}, nil},
		{"an ack in another order", pk(api.ConfAck, 1, a[1], a[0], a[2], a[3]), nothing, api.Packet{}, nil},
		{"an ack of another value", pk(api.ConfAck, 1, a[0], a[1], opt(7, "Q"), a[3]), nothing, api.Packet{}, nil},
		{"a nak of nothing", pk(api.ConfNak, 1), api.Rcn, api.Packet{}, nil},
		{"a nak of what is not asked for", pk(api.ConfNak, 1, opt(3, "\x07")), api.Rcn, api.Packet{}, nil},
		{"a nak", pk(api.ConfNak, 1, good), api.Rcn, api.Packet{}, []api.Option{good, a[1], a[2], a[3]}},
		{"a reject of nothing", pk(api.ConfRej, 1), api.Rcn, api.Packet{}, nil},
		{"a reject", pk(api.ConfRej, 1, a[0], a[2]), api.Rcn, api.Packet{}, []api.Option{a[1], a[3]}},
		{"a reject of what must be", pk(api.ConfRej, 1, a[0], a[3]), api.RxjMinus, api.Packet{}, nil},
		{"a reject in another order", pk(api.ConfRej, 1, a[2], a[0]), nothing, api.Packet{}, nil},
		{"a reject of another value", pk(api.ConfRej, 1, opt(7, "")), nothing, api.Packet{}, nil},
		{"a reject of what is not asked for", pk(api.ConfRej, 1, opt(11, "")), nothing, api.Packet{}, nil},
		{"the end", bare(api.TermReq, 40, "why"), api.Rtr, api.Packet{}, nil},
		{"the end granted", bare(api.TermAck, 200, ""), api.Rta, api.Packet{}, nil},
	}
	for _, id := range []int{0, 2, 255, 257, -1, -255, 1 << 32, 1<<32 + 1, math.MinInt, math.MaxInt} {
		out = append(out,
			hears{"an ack of another Id", pk(api.ConfAck, id, a...), nothing, api.Packet{}, nil},
			hears{"a nak of another Id", pk(api.ConfNak, id, good), nothing, api.Packet{}, nil},
			hears{"a reject of another Id", pk(api.ConfRej, id, a[0]), nothing, api.Packet{}, nil},
			hears{"a reject of what must be, of another Id", pk(api.ConfRej, id, a[3]), nothing, api.Packet{}, nil})
	}
	for b := range 256 {
		event := api.RxjPlus
		if b >= 1 && b <= 7 {
			event = api.RxjMinus
		}
		code := string([]byte{byte(b)})
		out = append(out, hears{"a code rejected", bare(api.CodeRej, 40, code), event, api.Packet{}, nil},
			hears{"a code rejected, with more", bare(api.CodeRej, 1, code+"\x01\x08"), event, api.Packet{}, nil})
	}
	out = append(out, hears{"no code rejected", bare(api.CodeRej, 40, ""), nothing, api.Packet{}, nil},
		hears{"no code rejected, with options", pk(api.CodeRej, 1, good), nothing, api.Packet{}, nil})
	codes := []int{0, -1, -7, 256, 257, 258, 259, 260, 261, 262, 263, 1<<32 + 1, math.MinInt, math.MaxInt}
	for code := 8; code < 256; code++ {
		codes = append(codes, code)
	}
	for _, code := range codes {
		out = append(out, hears{"another Code", bare(code, 1, "\x01"), api.Ruc, api.Packet{}, nil})
	}
	return out
}

// sent tells what is sent behind something that was heard, by the automaton's actions; id is the last that was used.
func (h hears) sent(does []int, id int) []api.Packet {
	request := ask()
	if h.left != nil {
		request = h.left
	}
	var out []api.Packet
	for _, action := range does {
		switch action {
		case api.Scr:
			id++
			out = append(out, pk(api.ConfReq, id, request...))
		case api.Sca, api.Scn:
			out = append(out, h.answer)
		case api.Str:
			id++
			out = append(out, bare(api.TermReq, id, ""))
		case api.Sta:
			out = append(out, bare(api.TermAck, h.came.Id, ""))
		case api.Scj:
			id++
			data := ""
			if h.came.Code >= 0 && h.came.Code < 256 {
				data = string([]byte{byte(h.came.Code), 1, 0, 5, 1})
			}
			out = append(out, bare(api.CodeRej, id, data))
		}
	}
	return out
}

func TestP1104EveryCodeInEveryState(t *testing.T) {
	for _, h := range everyHearing() {
		for state, name := range states {
			n := in(t, setup(), state)
			id := 1
			if state == api.Closed || state == api.Closing {
				id = 2
			}
			ups, downs := n.Ups()
			next, does := auto.Next(state, h.event)
			what := name + ": " + h.what
			says(t, what, n.Take(h.came), h.sent(does, id)...)
			is(t, what, n, next)
			if slices.Contains(does, api.Tlu) {
				ups++
			}
			if slices.Contains(does, api.Tld) {
				downs++
			}
			came(t, what, n, ups, downs)
			if t.Failed() {
				t.Fatalf("%+v", h.came)
			}
		}
	}
}

// What stands in a packet beside what its Code has says nothing.
func TestP1104WhatIsBeside(t *testing.T) {
	good := opt(1, "\x00\x64")
	n := in(t, setup(), api.ReqSent)
	says(t, "a request with data", n.Take(api.Packet{Code: api.ConfReq, Id: 4, Options: []api.Option{good}, Data: "d"}), pk(api.ConfAck, 4, good))
	says(t, "an ack with data", n.Take(api.Packet{Code: api.ConfAck, Id: 1, Options: ask(), Data: "d"}))
	is(t, "an ack with data", n, api.Opened)
	says(t, "an end with options", n.Take(pk(api.TermReq, 6, good)), bare(api.TermAck, 6, ""))
	is(t, "an end with options", n, api.Stopping)
}

// Before the first request no Id is the last one, though the Id is 0.
func TestP1104BeforeTheFirstRequest(t *testing.T) {
	for id := -1; id < 257; id++ {
		for _, p := range []api.Packet{pk(api.ConfAck, id, ask()...), pk(api.ConfNak, id, opt(1, "\x00\x64")), pk(api.ConfRej, id, opt(7, "q")), pk(api.ConfRej, id, opt(9, "z"))} {
			closed, over := made(t, setup()), adopted(t, setup())
			closed.Do(api.Up)
			says(t, "Closed", closed.Take(p))
			says(t, "adopted", over.Take(p))
			is(t, "Closed", closed, api.Closed)
			is(t, "adopted", over, api.Opened)
			says(t, "the request", closed.Do(api.Open), pk(api.ConfReq, 1, ask()...))
			if t.Failed() {
				t.Fatalf("%+v", p)
			}
		}
	}
}

// The last Id is that of the last ConfReq, not of what was sent behind it.
func TestP1104TheLastId(t *testing.T) {
	n := in(t, setup(), api.ReqSent)
	says(t, "a code", n.Take(bare(99, 0, "")), bare(api.CodeRej, 2, "\x63\x00\x00\x04"))
	says(t, "the Id of the reject", n.Take(pk(api.ConfAck, 2, ask()...)))
	is(t, "the Id of the reject", n, api.ReqSent)
	says(t, "the Id of the request", n.Take(pk(api.ConfAck, 1, ask()...)))
	is(t, "the Id of the request", n, api.AckRcvd)

	n = in(t, setup(), api.ReqSent)
	for range 255 {
		n.Take(bare(99, 0, ""))
	}
	says(t, "the Id is 0 by now", n.Take(pk(api.ConfAck, 0, ask()...)))
	says(t, "the request", n.Take(pk(api.ConfNak, 1)), pk(api.ConfReq, 1, ask()...))
	says(t, "a second one of Id 1", n.Take(pk(api.ConfNak, 1)), pk(api.ConfReq, 2, ask()...))
	says(t, "the old Id", n.Take(pk(api.ConfAck, 1, ask()...)))
	is(t, "the old Id", n, api.ReqSent)

	n = in(t, setup(), api.Closed) // a TermReq 2 behind the ConfReq 1
	says(t, "of the end", n.Take(pk(api.ConfAck, 2, ask()...)))
	says(t, "of the request", n.Take(pk(api.ConfAck, 1, ask()...)), bare(api.TermAck, 1, ""))
	n.Do(api.Down)
	n.Do(api.Up)
	says(t, "still of the request", n.Take(pk(api.ConfNak, 1)), bare(api.TermAck, 1, ""))
}

func low() api.Option { return opt(3, "\x01") }

// nakked holds that a request that does not fit is answered by a nak, or by a reject.
func nakked(t *testing.T, n *Neg, times int, code int) {
	t.Helper()
	want := low()
	if code == api.ConfNak {
		want = opt(3, "\x07")
	}
	for i := range times {
		l := n.Take(pk(api.ConfReq, i, low()))
		if len(l) == 0 {
			t.Fatalf("no answer to the request %d", i)
		}
		says(t, "a request that does not fit", l[len(l)-1:], pk(code, i, want))
	}
}

func TestP1104Fails(t *testing.T) {
	for fails := range 21 {
		s := setup()
		s.Fails = fails
		n := in(t, s, api.ReqSent)
		if fails == 0 {
			nakked(t, n, 100, api.ConfNak)
			continue
		}
		for range 3 {
			nakked(t, n, fails, api.ConfNak)
			nakked(t, n, 5, api.ConfRej)
			says(t, "an ack", n.Take(pk(api.ConfReq, 9)), pk(api.ConfAck, 9))
		}
		nakked(t, n, fails-1, api.ConfNak)
		n.Take(pk(api.ConfReq, 9))
		nakked(t, n, fails, api.ConfNak)
		nakked(t, n, 1, api.ConfRej)
	}
}

// Of several options those are rejected that do not fit, as they were asked, in order.
func TestP1104RejectInsteadOfNak(t *testing.T) {
	s := setup()
	s.Fails = 1
	s.Peer = append(s.Peer, api.Rule{Type: 6, Len: 0}, api.Rule{Type: 1, Len: 3, Max: 1 << 24, Suggest: "abc"})
	n := in(t, s, api.ReqSent)
	l := []api.Option{low(), opt(6, ""), opt(1, "long")}
	says(t, "a nak", n.Take(pk(api.ConfReq, 5, l...)), pk(api.ConfNak, 5, opt(3, "\x07"), opt(1, "\x05\xd4")))
	says(t, "a reject", n.Take(pk(api.ConfReq, 6, l...)), pk(api.ConfRej, 6, low(), opt(1, "long")))
	says(t, "others", n.Take(pk(api.ConfReq, 7, opt(1, "abc"), opt(6, "x"))), pk(api.ConfRej, 7, opt(1, "abc"), opt(6, "x")))
	says(t, "one without a rule", n.Take(pk(api.ConfReq, 8, low(), opt(4, ""))), pk(api.ConfRej, 8, opt(4, "")))
	says(t, "an ack", n.Take(pk(api.ConfReq, 9, opt(6, ""))), pk(api.ConfAck, 9, opt(6, "")))
	says(t, "a nak again", n.Take(pk(api.ConfReq, 5, l...)), pk(api.ConfNak, 5, opt(3, "\x07"), opt(1, "\x05\xd4")))
}

// Only naks that are sent are counted.
func TestP1104WhatIsNoNak(t *testing.T) {
	n := in(t, setup(), api.ReqSent)
	for range 10 {
		says(t, "a reject", n.Take(pk(api.ConfReq, 5, opt(8, ""))), pk(api.ConfRej, 5, opt(8, "")))
	}
	nakked(t, n, 2, api.ConfNak)
	nakked(t, n, 1, api.ConfRej)
	for _, state := range []int{api.Initial, api.Starting, api.Closed, api.Closing, api.Stopping} {
		n := in(t, setup(), state)
		for range 10 {
			n.Take(pk(api.ConfReq, 5, low()))
		}
		is(t, states[state], n, state)
		n.Do(api.Down)
		n.Do(api.Open)
		n.Do(api.Up)
		is(t, states[state], n, api.ReqSent)
		nakked(t, n, 2, api.ConfNak)
		nakked(t, n, 1, api.ConfRej)
	}
}

// In each state in which naks are sent they are counted, and they stay when it goes down and up.
func TestP1104NaksInEveryState(t *testing.T) {
	for _, state := range []int{api.Stopped, api.ReqSent, api.AckRcvd, api.AckSent, api.Opened} {
		n := in(t, setup(), state)
		nakked(t, n, 1, api.ConfNak)
		n.Do(api.Down)
		n.Do(api.Up)
		nakked(t, n, 1, api.ConfNak)
		nakked(t, n, 3, api.ConfRej)
	}
}

// A request that is good ends the naks, also where the automaton does not ack it; it is not theirs then.
func TestP1104AGoodRequestThatIsNotAcked(t *testing.T) {
	n := in(t, setup(), api.ReqSent)
	nakked(t, n, 2, api.ConfNak)
	n.Do(api.Close)
	says(t, "Closing", n.Take(pk(api.ConfReq, 5, opt(1, "\x00\x64"))))
	n.Do(api.Down)
	n.Do(api.Open)
	n.Do(api.Up)
	nakked(t, n, 2, api.ConfNak)
	nakked(t, n, 1, api.ConfRej)

	n = in(t, setup(), api.Opened)
	n.Do(api.Close)
	n.Take(pk(api.ConfReq, 5, opt(1, "\x00\x64")))
	n.Do(api.Down)
	n.Take(pk(api.ConfReq, 6, opt(1, "\x00\x65")))
	n.Adopt(ask(), []api.Option{opt(2, "b")})
	has(t, "adopted", n, ask(), []api.Option{opt(2, "b")})
	says(t, "in Opened nothing is heard of", n.Take(pk(api.ConfAck, 2, ask()...)))
	has(t, "adopted", n, ask(), []api.Option{opt(2, "b")})
}

// What an ack does: none but one of just the request's options, behind naks and rejects of the new ones.
func TestP1104Ack(t *testing.T) {
	n := in(t, setup(), api.ReqSent)
	n.Take(pk(api.ConfNak, 1, opt(1, "\x00\x64")))
	says(t, "the old options", n.Take(pk(api.ConfAck, 2, ask()...)))
	is(t, "the old options", n, api.ReqSent)
	now := ask()
	now[0].Value = "\x00\x64"
	says(t, "the new options, the old Id", n.Take(pk(api.ConfAck, 1, now...)))
	is(t, "the new options, the old Id", n, api.ReqSent)
	says(t, "the new options", n.Take(pk(api.ConfAck, 2, now...)))
	is(t, "the new options", n, api.AckRcvd)
	n.Take(pk(api.ConfReq, 3))
	has(t, "both", n, now, nil)

	s := setup()
	s.Ask = nil
	n = in(t, s, api.AckSent)
	is(t, "an empty request", n, api.AckSent)
	says(t, "an ack of more", n.Take(pk(api.ConfAck, 1, opt(1, ""))))
	is(t, "an ack of more", n, api.AckSent)
	n.Take(pk(api.ConfAck, 1))
	is(t, "an ack of nothing", n, api.Opened)
}

// asks holds the request, by a nak of nothing; the last one had that Id.
func asks(t *testing.T, what string, n *Neg, id int, want ...api.Option) {
	t.Helper()
	says(t, what, n.Take(pk(api.ConfNak, id)), pk(api.ConfReq, id+1, want...))
}

func TestP1104Nak(t *testing.T) {
	a := ask()
	for _, x := range []struct {
		what string
		l    []api.Option
		want []api.Option
	}{
		{"none", nil, a},
		{"what is not asked for", []api.Option{opt(3, "\x07"), opt(2, "")}, a},
		{"a value that fits", []api.Option{opt(1, "\x00\x64")}, []api.Option{opt(1, "\x00\x64"), a[1], a[2], a[3]}},
		{"at Min", []api.Option{opt(1, "\x00\x40")}, []api.Option{opt(1, "\x00\x40"), a[1], a[2], a[3]}},
		{"below Min", []api.Option{opt(1, "\x00\x3f")}, a[1:]},
		{"at Max", []api.Option{opt(1, "\x05\xd4")}, []api.Option{opt(1, "\x05\xd4"), a[1], a[2], a[3]}},
		{"above Max", []api.Option{opt(1, "\x05\xd5")}, a[1:]},
		{"no bytes", []api.Option{opt(1, "")}, a[1:]},
		{"the value that it has", []api.Option{a[0]}, a},
		{"no rule", []api.Option{opt(7, "r")}, []api.Option{a[0], a[1], a[3]}},
		{"no rule, the value that it has", []api.Option{a[2]}, []api.Option{a[0], a[1], a[3]}},
		{"must be, and fits", []api.Option{opt(9, "b")}, []api.Option{a[0], a[1], a[2], opt(9, "b")}},
		{"must be, and does not fit", []api.Option{opt(9, "B")}, a},
		{"must be, and has no bytes", []api.Option{opt(9, "")}, a},
		{"several, in another order", []api.Option{opt(9, "c"), opt(5, "nn"), opt(1, "\x00\x64")}, []api.Option{opt(1, "\x00\x64"), opt(5, "nn"), a[2], opt(9, "c")}},
		{"all that may go", []api.Option{opt(7, ""), opt(5, ""), opt(1, ""), opt(9, "")}, []api.Option{a[3]}},
		{"some fit, some not, some are not asked for", []api.Option{opt(1, "\x00\x64"), opt(4, "x"), opt(5, "\x00\x00"), opt(9, "d")}, []api.Option{opt(1, "\x00\x64"), a[2], opt(9, "d")}},
		{"twice: the last value", []api.Option{opt(5, "aa"), opt(5, "bb")}, []api.Option{a[0], opt(5, "bb"), a[2], a[3]}},
		{"twice: first good, then bad", []api.Option{opt(5, "aa"), opt(5, "")}, []api.Option{a[0], a[2], a[3]}},
		{"twice: first bad, then good", []api.Option{opt(5, ""), opt(5, "aa")}, []api.Option{a[0], a[2], a[3]}},
		{"twice, must be: first bad, then good", []api.Option{opt(9, ""), opt(9, "y")}, []api.Option{a[0], a[1], a[2], opt(9, "y")}},
		{"twice, must be: first good, then bad", []api.Option{opt(9, "y"), opt(9, "")}, []api.Option{a[0], a[1], a[2], opt(9, "y")}},
	} {
		n := in(t, setup(), api.ReqSent)
		says(t, x.what, n.Take(pk(api.ConfNak, 1, x.l...)), pk(api.ConfReq, 2, x.want...))
		asks(t, x.what, n, 2, x.want...)
	}
}

// Of two rules of Own of one Type the first one holds; a Type of Must alone has none.
func TestP1104NakByTheFirstRule(t *testing.T) {
	s := setup()
	s.Own = append([]api.Rule{{Type: 1, Len: 1, Max: 9, Suggest: "\x09"}}, s.Own...)
	s.Must = []int{7}
	n := in(t, s, api.ReqSent)
	says(t, "by the first", n.Take(pk(api.ConfNak, 1, opt(1, "\x03"), opt(7, "q"))), pk(api.ConfReq, 2, opt(1, "\x03"), opt(5, "mm"), opt(7, "q"), opt(9, "z")))
	says(t, "not by the second", n.Take(pk(api.ConfNak, 2, opt(1, "\x00\x64"))), pk(api.ConfReq, 3, opt(5, "mm"), opt(7, "q"), opt(9, "z")))
}

func TestP1104Rej(t *testing.T) {
	a := ask()
	for _, x := range []struct {
		what  string
		l     []api.Option
		event int
		want  []api.Option
	}{
		{"none", nil, api.Rcn, a},
		{"the first", a[:1], api.Rcn, a[1:]},
		{"one within", a[1:2], api.Rcn, []api.Option{a[0], a[2], a[3]}},
		{"two", []api.Option{a[0], a[2]}, api.Rcn, []api.Option{a[1], a[3]}},
		{"all that may go", a[:3], api.Rcn, a[3:]},
		{"what must be", a[3:], api.RxjMinus, a},
		{"what must be, with others", []api.Option{a[1], a[3]}, api.RxjMinus, a},
		{"all", a, api.RxjMinus, a},
		{"another order", []api.Option{a[2], a[0]}, nothing, a},
		{"another order, what must be ahead", []api.Option{a[3], a[0]}, nothing, a},
		{"another value", []api.Option{opt(1, "\x04\x01")}, nothing, a},
		{"no value", []api.Option{opt(5, "")}, nothing, a},
		{"another value of what must be", []api.Option{opt(9, "y")}, nothing, a},
		{"another Type of that value", []api.Option{opt(6, "mm")}, nothing, a},
		{"a good one, another value", []api.Option{a[0], opt(5, "mn")}, nothing, a},
		{"another value, a good one", []api.Option{opt(1, ""), a[1]}, nothing, a},
		{"one more than are asked for", append(ask(), opt(11, "")), nothing, a},
		{"twice", []api.Option{a[1], a[1]}, nothing, a},
		{"what is not asked for, though it is in Must", []api.Option{opt(11, "")}, nothing, a},
	} {
		n := in(t, setup(), api.ReqSent)
		l := n.Take(pk(api.ConfRej, 1, x.l...))
		switch x.event {
		case api.Rcn:
			says(t, x.what, l, pk(api.ConfReq, 2, x.want...))
			is(t, x.what, n, api.ReqSent)
			asks(t, x.what, n, 2, x.want...)
		case api.RxjMinus:
			says(t, x.what, l)
			is(t, x.what, n, api.Stopped)
			n.Do(api.Down)
			says(t, x.what, n.Do(api.Up), pk(api.ConfReq, 2, x.want...))
		default:
			says(t, x.what, l)
			is(t, x.what, n, api.ReqSent)
			asks(t, x.what, n, 1, x.want...)
		}
	}
}

// In Opened what must be there, and is rejected, ends it by this side's will.
func TestP1104RejOfMustInOpened(t *testing.T) {
	n := in(t, setup(), api.Opened)
	says(t, "rejected", n.Take(pk(api.ConfRej, 1, opt(9, "z"))), bare(api.TermReq, 2, ""))
	is(t, "rejected", n, api.Stopping)
	came(t, "rejected", n, 1, 1)
}

// Where the automaton sends nothing by it a request changes all the same.
func TestP1104TheRequestChangesInEveryState(t *testing.T) {
	for state, name := range states {
		for what, p := range map[string]api.Packet{"nak": pk(api.ConfNak, 1, opt(7, "")), "reject": pk(api.ConfRej, 1, opt(7, "q"))} {
			n := in(t, setup(), state)
			n.Take(p)
			n.Do(api.Down)
			n.Do(api.Open)
			l := n.Do(api.Up)
			if len(l) != 1 || !slices.Equal(l[0].Options, []api.Option{opt(1, "\x04\x00"), opt(5, "mm"), opt(9, "z")}) {
				t.Errorf("%s, %s: %v", name, what, l)
			}
		}
	}
}

func TestP1104NothingIsShared(t *testing.T) {
	n := in(t, setup(), api.ReqSent)
	nak := []api.Option{opt(1, "\x00\x64"), opt(5, "nn"), opt(7, "room")}
	l := n.Take(pk(api.ConfNak, 1, nak[:2]...))
	if nak[2] != opt(7, "room") || nak[0] != opt(1, "\x00\x64") {
		t.Errorf("a nak was changed: %v", nak)
	}
	spoil(nak)
	want := []api.Option{opt(1, "\x00\x64"), opt(5, "nn"), opt(7, "q"), opt(9, "z")}
	says(t, "the nak", l, pk(api.ConfReq, 2, want...))
	spoilPackets(l)
	rej := []api.Option{opt(7, "q"), opt(9, "room")}
	l = n.Take(pk(api.ConfRej, 2, rej[:1]...))
	if !slices.Equal(rej, []api.Option{opt(7, "q"), opt(9, "room")}) {
		t.Errorf("a reject was changed: %v", rej)
	}
	spoil(rej)
	spoilPackets(l)
	asks(t, "the reject", n, 3, want[0], want[1], want[3])
	for range 3 {
		asked := []api.Option{low(), opt(1, "\x00\x64"), opt(9, "room")}
		l = n.Take(pk(api.ConfReq, 5, asked[:2]...))
		if !slices.Equal(asked, []api.Option{low(), opt(1, "\x00\x64"), opt(9, "room")}) {
			t.Errorf("a request was changed: %v", asked)
		}
		spoilPackets(l)
		if asked[0] != low() {
			t.Errorf("a request is shared with its answer: %v", asked)
		}
	}
}
