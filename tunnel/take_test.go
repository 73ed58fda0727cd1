package tunnel

import (
	"strings"
	"testing"

	"tollgate/api"
	"tollgate/byhand"
)

// P2104: what is taken at all, and what the messages of each kind lead to in each state.

// acks tells the ack of all that came, stops a Stopccn with it.
func (e *end) acks() string { return byhand.Ctl(e.peer, 0, e.nr, e.ns, "") }

func (e *end) stops(code int) string { return byhand.Ctl(e.peer, 0, e.nr, e.ns, stop(5, code)) }

// same holds that nothing came of what e took, and that it still hears what comes next.
func same(t *testing.T, what string, s start, e *end) {
	t.Helper()
	is(t, what, e.Tunnel, s.look)
	outs(t, what, e.Tunnel)
	if s.look.state == Dead {
		return
	}
	takes(t, what, e.Tunnel, byhand.Ctl(5, 0, e.ns, e.nr, kind(6)))
	e.ns++
	outs(t, what, e.Tunnel, e.acks())
	is(t, what, e.Tunnel, s.look)
}

func TestP2104NoMessage(t *testing.T) {
	everyStart(t, func(s start, c Config, e *end) {
		good := e.says(kind(6))
		for _, b := range []string{
			"", "\x00", "\xc8", good[:4], good[:11], good[:12], good[:len(good)-1],
			"\xc0" + good[1:], "\x48" + good[1:], "\xc9" + good[1:], good[:1] + "\x03" + good[2:],
			good[:2] + "\x00\x0b" + good[4:], good[:2] + "\x00\x13" + good[4:], good[:2] + "\x00\x15" + good[4:],
			e.says("\x80"), e.says(kind(6)[:5]), e.says(kind(6) + "\x80\x06\x00"), e.says("\x80\x05\x00\x00\x00\x06"),
			e.says("\x90" + kind(6)[1:]), e.says(kind(6) + byhand.Value(32768, 0, 7, strings.Repeat("n", 1001))),
			e.says(kind(4) + strings.Repeat(kind(6), 40)), e.says(kind(6) + byhand.Value(16384, 0, 7, "hidden")),
			"\x40\x02\x00\x08\x00\x05\x00\x00", strings.Repeat("\x00", 1500), strings.Repeat("\xff", 1500),
		} {
			for range 2 {
				takes(t, s.what, e.Tunnel, b)
			}
		}
		same(t, s.what, s, e)
	})
}

// What stands behind the message is filling.
func TestP2104Filling(t *testing.T) {
	everyStart(t, func(s start, c Config, e *end) {
		takes(t, s.what, e.Tunnel, e.says(kind(6))+kind(4)+"filling")
		if s.look.state != Dead {
			e.ns++
			outs(t, s.what, e.Tunnel, e.acks())
		}
		same(t, s.what, s, e)
	})
}

// It is for this end by its Id, and by 0 only if it asks for a tunnel where there is none yet.
func TestP2104OfAnotherId(t *testing.T) {
	everyStart(t, func(s start, c Config, e *end) {
		all := []string{
			"", kind(6), stop(9, 1), sccrq(dares(c), tied(run(200, 8))), sccrp(dares(c)), scccn(), kind(10), kind(1), kind(5),
			must(7, "far") + kind(1), byhand.Value(16384, 0, 0, "\x00\x01"), byhand.Value(32768, 1, 0, "\x00\x01"), must(0, "\x01"), must(0, "\x00\x00\x01"),
		}
		for _, id := range []int{1, 4, 6, 9, 256, 5 * 256, 261, 65535} {
			for _, values := range all {
				takes(t, s.what, e.Tunnel, byhand.Ctl(id, 0, e.ns, e.nr, values))
			}
		}
		for _, values := range all {
			if !strings.HasPrefix(values, kind(1)) || s.look.state > WaitReply {
				takes(t, s.what, e.Tunnel, byhand.Ctl(0, 0, e.ns, e.nr, values))
			}
		}
		same(t, s.what, s, e)
	})
}

// The Sccrq to 0, and to the Id: in Idle and WaitReply both are heard.
func TestP2104SccrqToBoth(t *testing.T) {
	for _, id := range []int{0, 5} {
		for _, session := range []int{0, 1, 65535} {
			e := idle(t, config())
			takes(t, "Idle", e.Tunnel, byhand.Ctl(id, session, 0, 0, sccrq(asks("?"))))
			is(t, "Idle", e.Tunnel, look{WaitConn, 5, 9, "far", 9})
			e = waitReply(t, config())
			takes(t, "WaitReply", e.Tunnel, byhand.Ctl(id, session, 0, 0, sccrq(asks("?"), tied(run(0, 8)))))
			is(t, "WaitReply", e.Tunnel, look{WaitConn, 5, 9, "far", 9})
		}
	}
}

// In WaitConn and Live one to the Id is a message like others: doubled it is acked, in its turn it says nothing.
func TestP2104SccrqLate(t *testing.T) {
	everyStart(t, func(s start, c Config, e *end) {
		if s.look.state != WaitConn && s.look.state != Live {
			return
		}
		takes(t, s.what, e.Tunnel, byhand.Ctl(5, 0, 0, 0, sccrq(dares(c), tied(run(0, 8)))))
		outs(t, s.what, e.Tunnel, e.acks())
		is(t, s.what, e.Tunnel, s.look)
		e.hears(kind(1) + about("other", 7, 1) + dares(c) + tied(run(0, 8)))
		outs(t, s.what, e.Tunnel, e.acks())
		same(t, s.what, s, e)
	})
}

// In the channel's order: what is doubled or comes ahead of its turn is acked, and does nothing.
func TestP2104OutOfTurn(t *testing.T) {
	everyStart(t, func(s start, c Config, e *end) {
		if s.look.state == Dead {
			return
		}
		for _, ns := range []int{e.ns + 1, e.ns + 2, e.ns + 32767, e.ns + 32768, e.ns + 65535, e.ns + 65533} {
			for _, values := range []string{kind(6), stop(9, 1), sccrp(knows(c, 2, run(9, 16)), dares(c)), scccn(knows(c, 3, run(1, 16))), kind(10), kind(5)} {
				takes(t, s.what, e.Tunnel, byhand.Ctl(5, 0, ns%65536, e.nr, values))
				outs(t, s.what, e.Tunnel, e.acks())
				is(t, s.what, e.Tunnel, s.look)
			}
		}
		if s.look.state != WaitReply {
			takes(t, s.what, e.Tunnel, byhand.Ctl(5, 0, e.ns+1, e.nr, sccrq(dares(c))))
			outs(t, s.what, e.Tunnel, e.acks())
		}
		same(t, s.what, s, e)
	})
}

// The same message twice: the second one does nothing but that it is acked.
func TestP2104Doubled(t *testing.T) {
	for _, c := range []Config{config(), bare()} {
		twice := func(what string, e *end, values string, want look) {
			t.Helper()
			b := e.says(values)
			e.hears(values)
			e.drains()
			is(t, what, e.Tunnel, want)
			takes(t, what, e.Tunnel, b)
			is(t, what, e.Tunnel, want)
			outs(t, what, e.Tunnel, e.acks())
		}
		twice("Sccrq", idle(t, c), sccrq(dares(c)), look{WaitConn, 5, 9, "far", 10})
		twice("Sccrp", waitReply(t, c), sccrp(knows(c, 2, run(9, 16)), dares(c)), look{Live, 5, 9, "far", 10})
		twice("Scccn", waitConn(t, c), scccn(knows(c, 3, run(1, 16))), look{Live, 5, 9, "far", 10})
	}
	e := liveAsked(t, config())
	b := e.says(kind(10))
	takes(t, "a call's message", e.Tunnel, b, api.Ctl{Tunnel: 5, Avps: []api.Avp{{Must: true, Value: "\x00\x0a"}}})
	for range 3 {
		takes(t, "a call's message, doubled", e.Tunnel, b)
	}
}

// A bare ack acks, and is not acked.
func TestP2104Ack(t *testing.T) {
	e := idle(t, config())
	e.Open()
	e.Out()
	takes(t, "an ack", e.Tunnel, byhand.Ctl(5, 0, 0, 1, ""))
	outs(t, "an ack", e.Tunnel)
	ticks(e.Tunnel, 23)
	outs(t, "what is acked is not sent again", e.Tunnel)
	is(t, "an ack", e.Tunnel, look{WaitReply, 5, 0, "", 10})

	e = idle(t, config())
	e.Open()
	e.Out()
	for _, b := range []string{byhand.Ctl(0, 0, 0, 1, ""), byhand.Ctl(9, 0, 0, 1, ""), byhand.Ctl(5, 0, 0, 2, ""), byhand.Ctl(5, 0, 0, 0, "")} {
		takes(t, "an ack of none", e.Tunnel, b)
	}
	ticks(e.Tunnel, 3)
	if got := len(e.Out()); got != 1 {
		t.Errorf("what is not acked is sent %d times", got)
	}
	everyStart(t, func(s start, c Config, e *end) {
		for _, session := range []int{0, 1, 65535} {
			takes(t, s.what, e.Tunnel, byhand.Ctl(5, session, 65535, e.nr, ""))
		}
		same(t, s.what, s, e)
	})
}

// Hello, Sccrp, Scccn and calls' messages in the states that they say nothing to; they are acked.
func TestP2104OfNoUse(t *testing.T) {
	everyStart(t, func(s start, c Config, e *end) {
		if s.look.state == Dead {
			return
		}
		all := []string{kind(6), kind(6) + byhand.Value(0, 0, 99, "unknown"), kind(6) + must(7, "name")}
		if s.look.state != WaitReply {
			all = append(all, sccrp(knows(c, 2, run(9, 16)), dares(c)), sccrp(), sccrp(asks("x")))
		}
		if s.look.state != WaitConn {
			all = append(all, scccn(knows(c, 3, run(1, 16))), scccn(), scccn(answers(3, "x", "y")))
		}
		if s.look.state != Idle && s.look.state != WaitReply {
			all = append(all, sccrq(dares(c)), sccrq(), sccrq(asks("x")))
		}
		if s.look.state != Live {
			for n := 7; n <= 16; n++ {
				all = append(all, kind(n), kind(n)+must(14, "\x00\x01")+must(15, "1234"), kind(n)+must(14, "short"), kind(n)+must(99, ""))
			}
			all = append(all, kind(17), kind(65535))
		}
		for _, values := range all {
			if told := e.hears(values); len(told) > 0 {
				t.Errorf("%s: %x is told: %v", s.what, values, told)
			}
			outs(t, s.what, e.Tunnel, e.acks())
			is(t, s.what, e.Tunnel, s.look)
		}
	})
}

func TestP2104Stopccn(t *testing.T) {
	everyStart(t, func(s start, c Config, e *end) {
		if s.look.state == Dead {
			takes(t, s.what, e.Tunnel, e.says(stop(9, 1)))
			same(t, s.what, s, e)
			return
		}
		want := s.look
		want.state, want.room = Dead, 0
		for _, values := range []string{
			stop(9, 1), stop(5, 0), stop(0, 65535), kind(4) + must(1, "") + must(9, "\x00\x07"), stop(9, 4) + must(10, "\x00\x01") + must(7, "name"),
		} {
			e := s.make(t, c)
			e.hears(values)
			is(t, s.what, e.Tunnel, want)
			outs(t, s.what, e.Tunnel, e.acks())
			outs(t, s.what, e.Tunnel)
			is(t, s.what, e.Tunnel, want)
			takes(t, s.what, e.Tunnel, e.says(stop(9, 1)))
			outs(t, s.what, e.Tunnel)
		}
	})
}

// One that came twice ahead of Out is acked once; what waited then is told with its ack.
func TestP2104StopccnWithMore(t *testing.T) {
	e := liveOpened(t, bare())
	e.Send(7, []api.Avp{{Type: 1, Value: "x"}})
	b := e.says(stop(9, 1))
	e.hears(stop(9, 1))
	takes(t, "again", e.Tunnel, b)
	outs(t, "Stopccn", e.Tunnel, byhand.Ctl(9, 7, 2, 2, byhand.Value(0, 0, 1, "x")))
	outs(t, "Stopccn", e.Tunnel)

	e = liveOpened(t, bare())
	e.Send(7, []api.Avp{{Type: 1, Value: "x"}})
	e.Out()
	e.hears(stop(9, 1)) // it acks none
	ticks(e.Tunnel, 3)
	outs(t, "what flew is sent again", e.Tunnel, byhand.Ctl(9, 7, 2, 2, byhand.Value(0, 0, 1, "x")))
	outs(t, "what flew is sent again", e.Tunnel)
}

// bads tells messages that are not whole, and are no call's.
func bads() []string {
	all := []string{
		kind(0), kind(5), must(7, "far"), must(7, "far") + kind(6), must(0, ""), must(0, "\x06"), must(0, "\x00\x06\x00"),
		byhand.Value(32768, 1, 0, "\x00\x06"), byhand.Value(32768, 0, 1, "\x00\x0a"), byhand.Value(0, 0, 99, ""),
		kind(6) + kind(6), kind(6) + kind(10), kind(6) + must(99, ""), kind(6) + byhand.Value(32768, 7, 9, "\x00\x01"),
		kind(6) + must(9, "\x01"), kind(6) + byhand.Value(0, 0, 9, ""), kind(3) + must(13, "short"), kind(3) + must(13, run(1, 17)),
		kind(4), kind(4) + must(9, "\x00\x09"), kind(4) + must(1, "\x00\x01"), stop(9, 1) + kind(4), stop(9, 1) + must(4, ""), stop(9, 1) + must(9, ""),
		kind(4) + byhand.Value(32768, 0, 1, "") + byhand.Value(0, 1, 9, "\x00\x09"),
	}
	for _, n := range []int{1, 2} {
		whole := []string{must(2, "\x01\x00"), must(3, "1234"), must(7, "far"), must(9, "\x00\x09")}
		for i := range whole {
			less := append(append([]string{kind(n)}, whole[:i]...), whole[i+1:]...)
			all = append(all, strings.Join(less, ""))
		}
		full := kind(n) + strings.Join(whole, "")
		for _, more := range []string{
			kind(n), must(2, "\x01"), must(3, "123"), must(9, "\x01"), must(10, "\x01"), must(10, ""), must(13, run(1, 15)),
			must(5, ""), must(99, ""), byhand.Value(32768, 1, 7, "x"), byhand.Value(0, 0, 2, "123"),
		} {
			if n == 2 || more[5] != 5 {
				all = append(all, full+more)
			}
		}
	}
	return all
}

// In each state, with a Sccrq in WaitReply alone left out: that is told of with the ties.
func TestP2104NotWhole(t *testing.T) {
	everyStart(t, func(s start, c Config, e *end) {
		for _, values := range bads() {
			e := s.make(t, c)
			if s.look.state == WaitReply && strings.HasPrefix(values, kind(1)) {
				continue
			}
			if told := e.hears(values); len(told) > 0 {
				t.Errorf("%s: %x is told: %v", s.what, values, told)
			}
			want := s.look
			want.state, want.room = Dead, 0
			is(t, s.what, e.Tunnel, want)
			if s.look.state != Dead {
				outs(t, s.what, e.Tunnel, e.stops(2))
			}
			outs(t, s.what, e.Tunnel)
		}
	})
}

// What is not whole but out of its turn does nothing.
func TestP2104NotWholeLate(t *testing.T) {
	e := liveAsked(t, config())
	for _, values := range bads() {
		takes(t, "late", e.Tunnel, byhand.Ctl(5, 0, e.ns-1, e.nr, values))
		takes(t, "ahead", e.Tunnel, byhand.Ctl(5, 0, e.ns+1, e.nr, values))
	}
	outs(t, "late", e.Tunnel, e.acks())
	is(t, "late", e.Tunnel, look{Live, 5, 9, "far", 10})
}

// avps tells values as they are told.
func avps(n int, more ...api.Avp) []api.Avp {
	return append([]api.Avp{{Must: true, Value: byhand.Word(n)}}, more...)
}

// Calls' messages are told in Live, whole or not, with their Session.
func TestP2104Calls(t *testing.T) {
	everyStart(t, func(s start, c Config, e *end) {
		if s.look.state != Live {
			return
		}
		for _, n := range []int{7, 8, 9, 10, 11, 12, 13, 14, 15, 16, 17, 256, 32768, 65535} {
			for _, session := range []int{0, 1, 5, 258, 65535} {
				for _, more := range [][]api.Avp{
					nil,
					{{Must: true, Type: 14, Value: "\x00\x07"}, {Must: true, Type: 15, Value: "1234"}},
					{{Must: true, Type: 1, Value: "\x00\x01"}, {Type: 14, Value: "\x00\x07"}, {Vendor: 9, Type: 14, Value: "other"}},
					{{Must: true, Type: 24, Value: "1234"}, {Must: true, Type: 19, Value: "1234"}, {Type: 33, Value: run(0, 256)}},
					{{Must: true, Type: 14, Value: "short"}},
					{{Must: true, Type: 99}, {Must: true, Value: "\x00\x06"}},
					{{Must: true, Vendor: 7, Type: 14, Value: "\x00\x07"}, {Type: 14, Value: "\x00\x08"}},
				} {
					values := kind(n)
					for _, a := range more {
						flags := 0
						if a.Must {
							flags = 32768
						}
						values += byhand.Value(flags, a.Vendor, a.Type, a.Value)
					}
					b := byhand.Ctl(5, session, e.ns, e.nr, values)
					e.ns++
					takes(t, s.what, e.Tunnel, b, api.Ctl{Tunnel: 5, Session: session, Avps: avps(n, more...)})
					outs(t, s.what, e.Tunnel, e.acks())
					is(t, s.what, e.Tunnel, s.look)
				}
			}
		}
	})
}

// What is told is the caller's own.
func TestP2104CallsOwn(t *testing.T) {
	e := liveAsked(t, config())
	first := e.hears(kind(10))
	second := e.hears(kind(11))
	first[0].Avps[0].Value = "changed"
	_ = append(first[0].Avps, api.Avp{Type: 1})
	if second[0].Avps[0].Value != "\x00\x0b" {
		t.Errorf("%v", second)
	}
}
