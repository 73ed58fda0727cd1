package lcp

import (
	"math"
	"strings"
	"testing"

	"tollgate/api"
	"tollgate/neg"
)

// P1203.

func TestP1203EchoReq(t *testing.T) {
	for _, x := range []struct{ data, behind string }{
		{"", ""}, {"a", ""}, {"ab", ""}, {"abc", ""}, {"abcd", ""}, {"abcde", "e"}, {"\x00\x00\x00\x09data", "data"},
		{seven, ""}, {seven + seven, seven}, {"abcd" + strings.Repeat("x", 1484), strings.Repeat("x", 1484)},
	} {
		for number, own := range map[int]string{7: seven, 0: nought, 1<<32 - 1: most} {
			for _, id := range []int{0, 1, 5, 255, 256, -1, math.MinInt, math.MaxInt} {
				for state, name := range states {
					l := in(t, with(func(c *Config) { c.Magic = number }), state)
					ups, downs := l.Ups()
					got := l.Take(bare(api.EchoReq, id, x.data))
					if state == api.Opened {
						says(t, name, got, bare(api.EchoRep, id, own+x.behind))
					} else {
						says(t, name, got)
					}
					is(t, name, l, state)
					came(t, name, l, ups, downs)
				}
			}
		}
	}
}

// What answers takes no Id; options where none belong say nothing.
func TestP1203EchoReqTakesNoId(t *testing.T) {
	l := in(t, config(), api.Opened)
	for id := range 300 {
		says(t, "an echo", l.Take(bare(api.EchoReq, id, "abcde")), bare(api.EchoRep, id, seven+"e"))
	}
	says(t, "with options", l.Take(api.Packet{Code: api.EchoReq, Id: 4, Options: []api.Option{magic(seven)}, Data: "abcdef"}), bare(api.EchoRep, 4, seven+"ef"))
	says(t, "Reject", l.Reject(1, ""), bare(api.ProtRej, 2, "\x00\x01"))
}

// EchoRep, Discard and ProtRej are answered by nothing, and change no state.
func TestP1203QuietCodes(t *testing.T) {
	for _, code := range []int{api.EchoRep, api.Discard, api.ProtRej} {
		for _, data := range []string{"", "\x01", "\xc0\x21", "\xc0\x21\x01\x01\x00\x04", seven, "\x80\x21" + strings.Repeat("x", 1486)} {
			for state, name := range states {
				l := in(t, config(), state)
				mine, theirs := l.Mine(), l.Theirs()
				ups, downs := l.Ups()
				for _, id := range []int{0, 1, 2, 255, 300, -1} {
					says(t, name, l.Take(bare(code, id, data)))
				}
				is(t, name, l, state)
				has(t, name, l, mine, theirs)
				came(t, name, l, ups, downs)
				looped(t, name, l, 0)
			}
		}
	}
}

// Nor do they begin the waiting anew, or take an Id.
func TestP1203QuietCodesWhileItWaits(t *testing.T) {
	for _, code := range []int{api.EchoReq, api.EchoRep, api.Discard, api.ProtRej} {
		for _, state := range []int{api.ReqSent, api.AckRcvd, api.AckSent} {
			l := in(t, config(), state)
			says(t, "a tick", l.Tick())
			says(t, "a packet", l.Take(bare(code, 1, "abcdef")))
			says(t, "the second tick", l.Tick(), pk(api.ConfReq, 2, magic(seven)))
		}
	}
}

// All else is chapter 11's: every Code, in every state, held against a negotiation with the same request.
func TestP1203TheRest(t *testing.T) {
	rules := []api.Rule{{Type: 5, Len: 4, Min: 1, Max: 1<<32 - 1, Suggest: "\x00\x00\x00\x01"}}
	setup := neg.Setup{Ask: []api.Option{magic(seven)}, Own: rules, Peer: rules, Configure: 3, Terminate: 2, Fails: 2, Wait: 2}
	codes := []int{0, -1, -9, 256, 257, 265, 1<<32 + 9, math.MinInt, math.MaxInt}
	for code := 1; code < 256; code++ {
		if code < api.ProtRej || code > api.Discard {
			codes = append(codes, code)
		}
	}
	for _, code := range codes {
		for _, p := range []api.Packet{bare(code, 1, ""), bare(code, 1, "\x01\x02"), bare(code, 1, "\x63"), bare(code, 0, "abc"), pk(code, 1), pk(code, 1, magic(seven)), pk(code, 2, magic(seven)), pk(code, 1, opt(9, "x"))} {
			if code == api.ConfReq && len(p.Options) == 1 && p.Options[0] == magic(seven) {
				continue // a loop, which chapter 11 does not know
			}
			for state, name := range states {
				l := in(t, config(), state)
				n, _ := neg.New(setup)
				n.Do(api.Up)
				n.Do(api.Open)
				bring(n, state)
				says(t, name, l.Take(p), n.Take(p)...)
				is(t, name, l, n.State())
				if t.Failed() {
					t.Fatalf("it was %v", p)
				}
			}
		}
	}
}

// bring brings a negotiation in ReqSent to a state, as in does.
func bring(n *neg.Neg, state int) {
	acks, acked := func() { n.Take(pk(api.ConfReq, 77)) }, func() { n.Take(pk(api.ConfAck, 1, magic(seven))) }
	switch state {
	case api.Initial:
		n.Do(api.Down)
		n.Do(api.Close)
	case api.Starting:
		n.Do(api.Down)
	case api.Closed:
		n.Do(api.Close)
		n.Take(bare(api.TermAck, 2, ""))
	case api.Stopped:
		n.Take(bare(api.CodeRej, 5, "\x01"))
	case api.Closing:
		n.Do(api.Close)
	case api.Stopping:
		acks()
		acked()
		n.Take(bare(api.TermReq, 5, ""))
	case api.AckRcvd:
		acked()
	case api.AckSent:
		acks()
	case api.Opened:
		acks()
		acked()
	}
}

func TestP1203Reject(t *testing.T) {
	for _, x := range []struct {
		proto int
		want  string // its two bytes, or nothing
	}{
		{0, "\x00\x00"}, {1, "\x00\x01"}, {255, "\x00\xff"}, {256, "\x01\x00"}, {0x8021, "\x80\x21"}, {65534, "\xff\xfe"}, {65535, "\xff\xff"},
		{-1, ""}, {65536, ""}, {65537, ""}, {-65535, ""}, {1 << 32, ""}, {1<<32 + 1, ""}, {math.MinInt, ""}, {math.MaxInt, ""},
	} {
		for state, name := range states {
			l := in(t, config(), state)
			got := l.Reject(x.proto, "abc")
			if state != api.Opened || x.want == "" {
				says(t, name, got)
				// Where nothing is said no Id is taken.
				l.Do(api.Down)
				l.Do(api.Open)
				says(t, name, l.Do(api.Up), pk(api.ConfReq, used(state)+1, magic(seven)))
				continue
			}
			says(t, name, got, bare(api.ProtRej, 2, x.want+"abc"))
			is(t, name, l, state)
			came(t, name, l, 1, 0)
		}
	}
}

// What is rejected is cut so that it has room: two bytes and 1486 of it.
func TestP1203RejectCuts(t *testing.T) {
	const room = 1486 // MaxData - 12 - 2, written out so that a slip in the constant shows
	l := in(t, config(), api.Opened)
	for i, n := range []int{0, 1, 2, room - 1, room, room + 1, room + 2, 1500, 2000, 70000} {
		data := strings.Repeat("x", n)
		if n > 0 {
			data = data[1:] + "y" // the last byte, which shows whether it is there
		}
		says(t, "Reject", l.Reject(0x1234, data), bare(api.ProtRej, 2+i, "\x12\x34"+data[:min(n, room)]))
	}
}

// Its Ids are of one row with those of chapter 11, and wrap as they do.
func TestP1203RejectIds(t *testing.T) {
	l := in(t, config(), api.Opened)
	id := 1
	next := func() int { id++; return id % 256 }
	for range 200 {
		says(t, "Reject", l.Reject(1, ""), bare(api.ProtRej, next(), "\x00\x01"))
		says(t, "a code", l.Take(bare(20, 3, "")), bare(api.CodeRej, next(), "\x14\x03\x00\x04"))
		says(t, "Reject", l.Reject(2, "z"), bare(api.ProtRej, next(), "\x00\x02z"))
		if t.Failed() {
			t.FailNow()
		}
	}
	// The last Id stays that of the last request.
	says(t, "a nak of the last Id used", l.Take(pk(api.ConfNak, id%256, magic("abcd"))))
	is(t, "a nak of the last Id used", l, api.Opened)
	says(t, "a nak of the request's", l.Take(pk(api.ConfNak, 1, magic("abcd"))), pk(api.ConfReq, next(), magic("abcd")))
	is(t, "a nak of the request's", l, api.ReqSent)
}
