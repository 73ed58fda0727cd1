package neg

import (
	"slices"
	"strings"
	"testing"

	"tollgate/api"
)

// P1103: the actions as packets, Ids, and the waiting.

// Each action, where the automaton has it: by what came, from which state.
func TestP1103Actions(t *testing.T) {
	request := func(id int) api.Packet { return pk(api.ConfReq, id, ask()...) }
	good, low, strange := opt(1, "\x00\x64"), opt(1, "\x00\x01"), opt(8, "s")
	ack, nak, rej := pk(api.ConfAck, 40, good), pk(api.ConfNak, 40, opt(1, "\x05\xd4")), pk(api.ConfRej, 40, strange)
	for _, x := range []struct {
		what  string
		state int
		came  api.Packet
		want  []api.Packet
	}{
		{"Sca", api.ReqSent, pk(api.ConfReq, 40, good), []api.Packet{ack}},
		{"Sca of nothing", api.ReqSent, pk(api.ConfReq, 0), []api.Packet{pk(api.ConfAck, 0)}},
		{"Sca and Tlu", api.AckRcvd, pk(api.ConfReq, 40, good), []api.Packet{ack}},
		{"Irc, Scr, Sca", api.Stopped, pk(api.ConfReq, 40, good), []api.Packet{request(2), ack}},
		{"Tld, Scr, Sca", api.Opened, pk(api.ConfReq, 40, good), []api.Packet{request(2), ack}},
		{"Scn, a nak", api.ReqSent, pk(api.ConfReq, 40, low), []api.Packet{nak}},
		{"Scn, a reject", api.ReqSent, pk(api.ConfReq, 40, low, strange), []api.Packet{rej}},
		{"Irc, Scr, Scn", api.Stopped, pk(api.ConfReq, 40, low), []api.Packet{request(2), nak}},
		{"Tld, Scr, Scn", api.Opened, pk(api.ConfReq, 40, strange), []api.Packet{request(2), rej}},
		{"Irc, Scr", api.ReqSent, pk(api.ConfNak, 1), []api.Packet{request(2)}},
		{"Scr", api.AckRcvd, pk(api.ConfNak, 1), []api.Packet{request(2)}},
		{"Tld, Scr", api.Opened, bare(api.TermAck, 40, ""), []api.Packet{request(2)}},
		{"Sta of an end", api.ReqSent, bare(api.TermReq, 40, "why"), []api.Packet{bare(api.TermAck, 40, "")}},
		{"Sta of Id 0", api.ReqSent, bare(api.TermReq, 0, ""), []api.Packet{bare(api.TermAck, 0, "")}},
		{"Sta of Id 255", api.AckSent, bare(api.TermReq, 255, ""), []api.Packet{bare(api.TermAck, 255, "")}},
		{"Sta of an Id that is none", api.AckSent, bare(api.TermReq, -900, ""), []api.Packet{bare(api.TermAck, -900, "")}},
		{"Tld, Zrc, Sta", api.Opened, bare(api.TermReq, 40, ""), []api.Packet{bare(api.TermAck, 40, "")}},
		{"Sta of a request", api.Closed, pk(api.ConfReq, 40, good), []api.Packet{bare(api.TermAck, 40, "")}},
		{"Sta of an ack", api.Closed, pk(api.ConfAck, 1, ask()...), []api.Packet{bare(api.TermAck, 1, "")}},
		{"Sta of a nak", api.Stopped, pk(api.ConfNak, 1), []api.Packet{bare(api.TermAck, 1, "")}},
		{"Tld, Irc, Str", api.Opened, bare(api.CodeRej, 40, "\x01"), []api.Packet{bare(api.TermReq, 2, "")}},
		{"Tlf", api.ReqSent, bare(api.CodeRej, 40, "\x01"), nil},
		{"Scj", api.ReqSent, bare(99, 40, "xyz"), []api.Packet{bare(api.CodeRej, 2, "\x63\x28\x00\x07xyz")}},
		{"Scj without data", api.Opened, bare(api.EchoReq, 255, ""), []api.Packet{bare(api.CodeRej, 2, "\x09\xff\x00\x04")}},
	} {
		says(t, x.what, in(t, setup(), x.state).Take(x.came), x.want...)
	}
	n := in(t, setup(), api.Opened)
	says(t, "Tld, Irc, Str by Close", n.Do(api.Close), bare(api.TermReq, 2, ""))
}

// A Scj has the packet's bytes, as far as there is room for them; none of a packet that has none.
func TestP1103Scj(t *testing.T) {
	const room = 1488 // MaxData - 12, written out so that a slip in the constant shows
	long := func(n int) string { return strings.Repeat("x", n-1) + "y" }
	head := func(n int) string { return string([]byte{99, 7, byte(n / 256), byte(n % 256)}) }
	for _, x := range []struct {
		what string
		came api.Packet
		want string
	}{
		{"a byte below the room", bare(99, 7, long(room-5)), head(room-1) + long(room-5)},
		{"all room", bare(99, 7, long(room-4)), head(room) + long(room-4)},
		{"a byte more", bare(99, 7, long(room-3)), head(room+1) + strings.Repeat("x", room-4)},
		{"as long as can be put", bare(99, 7, long(room)), head(room+4) + strings.Repeat("x", room-4)},
		{"too long to be put", bare(99, 7, long(room+1)), ""},
		{"far too long", bare(99, 7, long(70000)), ""},
		{"options of a Code without", pk(99, 7, opt(1, "a")), ""},
		{"an empty list of them", api.Packet{Code: 99, Id: 7, Options: []api.Option{}, Data: "d"}, head(5) + "d"},
		{"an Id of 255", bare(99, 255, ""), "\x63\xff\x00\x04"},
		{"an Id of 256", bare(99, 256, "d"), ""},
		{"an Id of -1", bare(99, -1, "d"), ""},
		{"a Code of 255", bare(255, 7, "d"), "\xff\x07\x00\x05d"},
		{"a Code of 256", bare(256, 7, "d"), ""},
		{"a Code of 257, like a ConfReq in its low bits", bare(257, 7, ""), ""},
		{"a Code of -1", bare(-1, 7, "d"), ""},
		{"a Code of 0", bare(0, 7, "d"), "\x00\x07\x00\x05d"},
	} {
		n := in(t, setup(), api.ReqSent)
		says(t, x.what, n.Take(x.came), bare(api.CodeRej, 2, x.want))
		says(t, x.what+", again", n.Take(x.came), bare(api.CodeRej, 3, x.want))
	}
}

// Ids go up to 255, and begin again at 0; Scr, Str and Scj take them from one row.
func TestP1103IdsOfRequests(t *testing.T) {
	n := made(t, setup())
	n.Do(api.Up)
	says(t, "the first", n.Do(api.Open), pk(api.ConfReq, 1, ask()...))
	for i := 1; i < 600; i++ {
		says(t, "a nak", n.Take(pk(api.ConfNak, i%256)), pk(api.ConfReq, (i+1)%256, ask()...))
		if t.Failed() {
			t.FailNow()
		}
	}
}

func TestP1103IdsOfRejects(t *testing.T) {
	n := made(t, setup())
	n.Do(api.Up)
	for i := 1; i < 600; i++ {
		says(t, "a code", n.Take(bare(20, 3, "")), bare(api.CodeRej, i%256, "\x14\x03\x00\x04"))
		if t.Failed() {
			t.FailNow()
		}
	}
	says(t, "a request", n.Do(api.Open), pk(api.ConfReq, 600%256, ask()...))
}

func TestP1103IdsOfAll(t *testing.T) {
	n := made(t, setup())
	n.Do(api.Up)
	id := 0
	next := func() int { id++; return id % 256 }
	for range 200 {
		says(t, "Open", n.Do(api.Open), pk(api.ConfReq, next(), ask()...))
		says(t, "a code", n.Take(bare(20, 3, "")), bare(api.CodeRej, next(), "\x14\x03\x00\x04"))
		says(t, "Close", n.Do(api.Close), bare(api.TermReq, next(), ""))
		says(t, "a tick", n.Tick())
		says(t, "a tick", n.Tick(), bare(api.TermReq, next(), ""))
		// What answers takes none.
		says(t, "an end", n.Take(bare(api.TermReq, 9, "")), bare(api.TermAck, 9, ""))
		says(t, "the end", n.Take(bare(api.TermAck, 0, "")))
		if t.Failed() {
			t.FailNow()
		}
	}
	n = in(t, setup(), api.ReqSent)
	for i := range 600 {
		says(t, "an ack, a nak, a reject", slices.Concat(n.Take(pk(api.ConfReq, i)), n.Take(pk(api.ConfReq, i, opt(3, ""))), n.Take(pk(api.ConfReq, i, opt(4, "")))),
			pk(api.ConfAck, i), pk(api.ConfNak, i, opt(3, "\x07")), pk(api.ConfRej, i, opt(4, "")))
	}
	says(t, "the second", n.Take(pk(api.ConfNak, 1)), pk(api.ConfReq, 2, ask()...))
}

// quiet holds that nothing is sent for some ticks.
func quiet(t *testing.T, what string, n *Neg, ticks int) {
	t.Helper()
	for range ticks {
		says(t, what, n.Tick())
	}
}

// waiting is a Setup of that Wait.
func waiting(wait int) Setup {
	s := setup()
	s.Wait = wait
	return s
}

func TestP1103Ticks(t *testing.T) {
	for _, wait := range []int{1, 2, 3, 50, 99, 100} {
		n := in(t, waiting(wait), api.ReqSent)
		for id := 2; id <= 3; id++ {
			quiet(t, "up to Wait", n, wait-1)
			says(t, "at Wait", n.Tick(), pk(api.ConfReq, id, ask()...))
		}
		quiet(t, "up to the last", n, wait-1)
		is(t, "up to the last", n, api.ReqSent)
		quiet(t, "the last", n, 1)
		is(t, "the last", n, api.Stopped)
		quiet(t, "behind it", n, 3*wait)
		is(t, "behind it", n, api.Stopped)
		came(t, "behind it", n, 0, 0)
	}
}

func TestP1103TicksOfTheEnd(t *testing.T) {
	for _, wait := range []int{1, 2, 7, 100} {
		n := in(t, waiting(wait), api.Closing)
		quiet(t, "up to Wait", n, wait-1)
		says(t, "at Wait", n.Tick(), bare(api.TermReq, 3, ""))
		quiet(t, "up to the last", n, wait-1)
		is(t, "up to the last", n, api.Closing)
		quiet(t, "the last", n, 1)
		is(t, "the last", n, api.Closed)
		quiet(t, "behind it", n, 3*wait)

		n = in(t, waiting(wait), api.Opened)
		says(t, "a reject", n.Take(bare(api.CodeRej, 0, "\x02")), bare(api.TermReq, 2, ""))
		quiet(t, "up to Wait", n, wait-1)
		says(t, "at Wait", n.Tick(), bare(api.TermReq, 3, ""))
		quiet(t, "to the last", n, wait)
		is(t, "to the last", n, api.Stopped)
	}
}

// AckRcvd goes back to ReqSent when its time is over; AckSent stays.
func TestP1103TicksBehindAnAck(t *testing.T) {
	n := in(t, waiting(4), api.AckRcvd)
	quiet(t, "AckRcvd", n, 3)
	is(t, "AckRcvd", n, api.AckRcvd)
	says(t, "its time is over", n.Tick(), pk(api.ConfReq, 2, ask()...))
	is(t, "its time is over", n, api.ReqSent)

	n = in(t, waiting(4), api.AckSent)
	quiet(t, "AckSent", n, 3)
	says(t, "its time is over", n.Tick(), pk(api.ConfReq, 2, ask()...))
	is(t, "its time is over", n, api.AckSent)
}

// Where it does not wait, no tick does anything.
func TestP1103TicksWhereItDoesNotWait(t *testing.T) {
	for _, state := range []int{api.Initial, api.Starting, api.Closed, api.Stopped, api.Opened} {
		n := in(t, waiting(1), state)
		ups, downs := n.Ups()
		quiet(t, states[state], n, 300)
		is(t, states[state], n, state)
		came(t, states[state], n, ups, downs)
	}
}

// Each Scr and Str begins the waiting anew, whatever brought it about.
func TestP1103ScrAndStrBeginAnew(t *testing.T) {
	for _, x := range []struct {
		what  string
		state int
		do    func(*Neg) []api.Packet
		again int // the Code of what is sent, and sent again
	}{
		{"Scr by a nak", api.ReqSent, func(n *Neg) []api.Packet { return n.Take(pk(api.ConfNak, 1)) }, api.ConfReq},
		{"Scr by a reject", api.AckSent, func(n *Neg) []api.Packet { return n.Take(pk(api.ConfRej, 1)) }, api.ConfReq},
		{"Scr by an ack in AckRcvd", api.AckRcvd, func(n *Neg) []api.Packet { return n.Take(pk(api.ConfAck, 1, ask()...)) }, api.ConfReq},
		{"Str by Close", api.ReqSent, func(n *Neg) []api.Packet { return n.Do(api.Close) }, api.TermReq},
		{"Str by Close in AckRcvd", api.AckRcvd, func(n *Neg) []api.Packet { return n.Do(api.Close) }, api.TermReq},
	} {
		for _, ticks := range []int{0, 1, 2, 3, 4} {
			n := in(t, waiting(5), x.state)
			quiet(t, x.what, n, ticks)
			if l := x.do(n); len(l) != 1 || l[0].Code != x.again {
				t.Errorf("%s: %v", x.what, l)
			}
			quiet(t, x.what, n, 4)
			if l := n.Tick(); len(l) != 1 || l[0].Code != x.again {
				t.Errorf("%s, behind %d ticks: %v at Wait", x.what, ticks, l)
			}
		}
	}
}

// What sends something else, or nothing, does not.
func TestP1103OthersDoNotBeginAnew(t *testing.T) {
	for what, do := range map[string]func(*Neg){
		"Sca":               func(n *Neg) { n.Take(pk(api.ConfReq, 9)) },
		"Scn":               func(n *Neg) { n.Take(pk(api.ConfReq, 9, opt(3, ""))) },
		"Sta":               func(n *Neg) { n.Take(bare(api.TermReq, 9, "")) },
		"Scj":               func(n *Neg) { n.Take(bare(99, 9, "")) },
		"an ack":            func(n *Neg) { n.Take(pk(api.ConfAck, 1, ask()...)) },
		"another Id":        func(n *Neg) { n.Take(pk(api.ConfNak, 2)) },
		"RxjPlus":           func(n *Neg) { n.Take(bare(api.CodeRej, 9, "\x63")) },
		"Open":              func(n *Neg) { n.Do(api.Open) },
		"Up":                func(n *Neg) { n.Do(api.Up) },
		"an event of none":  func(n *Neg) { n.Do(api.ToPlus) },
		"to be asked":       func(n *Neg) { n.State(); n.Mine(); n.Theirs(); n.Ups() },
		"Adopt, not by now": func(n *Neg) { n.Adopt(nil, nil) },
	} {
		n := in(t, waiting(5), api.ReqSent)
		quiet(t, what, n, 2)
		do(n)
		quiet(t, what, n, 2)
		if l := n.Tick(); len(l) != 1 || l[0].Code != api.ConfReq {
			t.Errorf("%s: %v at Wait", what, l)
		}
	}
}

// Ticks where it does not wait are not counted; those before are still, until a Scr or a Str.
func TestP1103TicksAcrossOpened(t *testing.T) {
	n := in(t, waiting(3), api.AckSent)
	quiet(t, "AckSent", n, 2)
	says(t, "the ack", n.Take(pk(api.ConfAck, 1, ask()...)))
	quiet(t, "Opened", n, 50)
	n.Take(bare(api.TermReq, 9, "")) // without a Str: it is the other side that ends
	is(t, "the end", n, api.Stopping)
	quiet(t, "the third tick", n, 1)
	is(t, "the third tick", n, api.Stopped)

	n = in(t, waiting(3), api.AckSent)
	quiet(t, "AckSent", n, 2)
	n.Take(pk(api.ConfAck, 1, ask()...))
	quiet(t, "Opened", n, 50)
	says(t, "Close", n.Do(api.Close), bare(api.TermReq, 2, ""))
	quiet(t, "Closing", n, 2)
	says(t, "the third tick", n.Tick(), bare(api.TermReq, 3, ""))
}

func TestP1103UpsAndDowns(t *testing.T) {
	n := in(t, setup(), api.AckSent)
	for i := range 50 {
		came(t, "before", n, i, i)
		n.Take(pk(api.ConfAck, i+1, ask()...))
		is(t, "up", n, api.Opened)
		came(t, "up", n, i+1, i)
		n.Take(pk(api.ConfReq, 7))
		is(t, "down", n, api.AckSent)
	}
	came(t, "all", n, 50, 50)
}
