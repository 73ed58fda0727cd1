package tunnel

import (
	"math"
	"testing"

	"tollgate/api"
	"tollgate/avp"
	"tollgate/byhand"
	"tollgate/msg"
)

// P2105: Tick and Send.

// lives counts the ticks until it is Dead, at most some.
func lives(e *end) int {
	n := 0
	for e.State() != Dead && n < 5000 {
		e.Tick()
		n++
	}
	return n
}

// In WaitReply and WaitConn it waits 3 times Hello ticks, whatever it hears that does not bring it on.
func TestP2105Waits(t *testing.T) {
	for _, hello := range []int{1, 2, 8, 333, 1000} {
		for _, secret := range []string{"", "s"} {
			c := with(func(c *Config) { c.Hello, c.Secret = hello, secret })
			for _, make := range []func(*testing.T, Config) *end{waitReply, waitConn} {
				e := make(t, c)
				want := seen(e.Tunnel)
				ticks(e.Tunnel, 3*hello-1)
				is(t, "the tick ahead", e.Tunnel, want)
				outs(t, "the tick ahead", e.Tunnel)
				e.Tick()
				want.state, want.room = Dead, 0
				is(t, "the tick", e.Tunnel, want)
				outs(t, "the tick", e.Tunnel)
				ticks(e.Tunnel, 3*hello)
				is(t, "behind it", e.Tunnel, want)
				outs(t, "behind it", e.Tunnel)
			}
		}
	}
}

// What is heard between, and is acked, doesn't make it wait longer.
func TestP2105WaitsWithMessages(t *testing.T) {
	for _, make := range []func(*testing.T, Config) *end{waitReply, waitConn} {
		e := make(t, config())
		state := e.State()
		for n := range 23 {
			e.Tick()
			e.hears(kind(6))
			e.Take(e.says(""))
			if e.State() != state {
				t.Errorf("behind %d ticks the state is %d", n+1, e.State())
			}
			outs(t, "an ack", e.Tunnel, e.acks())
		}
		e.hears(kind(6))
		e.Tick()
		if e.State() != Dead {
			t.Errorf("behind 24 ticks the state is %d", e.State())
		}
		outs(t, "no ack any more", e.Tunnel)
	}
}

// It is counted from when it came to the state: not in Idle, and anew from WaitReply to WaitConn.
func TestP2105WaitsFromThere(t *testing.T) {
	e := idle(t, config())
	ticks(e.Tunnel, 5000)
	is(t, "Idle", e.Tunnel, look{Idle, 5, 0, "", 10})
	outs(t, "Idle", e.Tunnel)
	e.Open()
	e.drains()
	if got := lives(e); got != 24 {
		t.Errorf("WaitReply: Dead behind %d", got)
	}
	e = idle(t, config())
	ticks(e.Tunnel, 50)
	e.hears(sccrq(asks("?")))
	e.drains()
	if got := lives(e); got != 24 {
		t.Errorf("WaitConn: Dead behind %d", got)
	}
	e = waitReply(t, config())
	ticks(e.Tunnel, 23)
	takes(t, "a lower tie", e.Tunnel, byhand.Ctl(0, 0, 0, 0, rival(config(), run(0, 8))))
	e.Out()
	takes(t, "an ack", e.Tunnel, byhand.Ctl(5, 0, 1, 1, ""))
	if got := lives(e); got != 24 {
		t.Errorf("WaitConn by a tie: Dead behind %d", got)
	}
	for _, tie := range []string{run(2, 8), run(0, 7)} { // these don't bring it on
		e = waitReply(t, config())
		ticks(e.Tunnel, 20)
		takes(t, "a tie", e.Tunnel, byhand.Ctl(0, 0, 0, 0, rival(config(), tie)))
		if got := lives(e); got != 4 {
			t.Errorf("WaitReply: Dead behind 20 and %d", got)
		}
	}
	for _, early := range []func(*testing.T, Config) *end{waitReply, waitConn} { // and Live has ticks of its own
		e = early(t, config())
		ticks(e.Tunnel, 20)
		if e.State() == WaitReply {
			e.hears(sccrp(answers(2, "s", run(9, 16)), asks("?")))
		} else {
			e.hears(scccn(answers(3, "s", run(1, 16))))
		}
		e.drains()
		ticks(e.Tunnel, 7)
		outs(t, "Live", e.Tunnel)
		e.Tick()
		outs(t, "Live", e.Tunnel, byhand.Ctl(9, 0, e.nr, e.ns, kind(6)))
	}
}

// The channel gives up ahead of that, in each state in which something flies.
func TestP2105GivesUp(t *testing.T) {
	c := with(func(c *Config) { c.Hello = 1000 })
	for what, x := range map[string]struct {
		make func(*testing.T, Config) *end
		do   func(e *end)
		peer int
	}{
		"WaitReply":    {idle, func(e *end) { e.Open() }, 0},
		"WaitConn":     {idle, func(e *end) { e.hears(sccrq(asks("?"))) }, 9},
		"Live, opened": {waitReply, func(e *end) { e.hears(sccrp(answers(2, "s", run(9, 16)), asks("?"))) }, 9},
		"Live, asked":  {liveAsked, func(e *end) { e.Send(1, nil) }, 9},
	} {
		e := x.make(t, c)
		x.do(e)
		first := e.Out()
		state := e.State()
		for n := range 21 {
			if e.State() != state {
				t.Errorf("%s: the state is %d behind %d ticks", what, e.State(), n)
			}
			if n == 3 || n == 9 {
				outs(t, what, e.Tunnel, first...)
			}
			outs(t, what, e.Tunnel)
			e.Tick()
		}
		name := "far"[:min(3, x.peer)]
		is(t, what, e.Tunnel, look{Dead, 5, x.peer, name, 0})
		outs(t, what, e.Tunnel)
		e.Close()
		outs(t, what, e.Tunnel)
	}
}

// Where nothing flies, as it was never told, the channel waits for nothing.
func TestP2105NothingFlies(t *testing.T) {
	e := idle(t, config())
	e.Open()
	if got := lives(e); got != 24 {
		t.Errorf("Dead behind %d", got)
	}
	outs(t, "what waited is not told", e.Tunnel)
	e = liveOpened(t, config())
	e.Send(1, nil)
	ticks(e.Tunnel, 3000)
	if e.State() != Live {
		t.Errorf("the state is %d", e.State())
	}
}

// In Live a Hello goes behind each Hello ticks in which nothing came.
func TestP2105Hello(t *testing.T) {
	for _, hello := range []int{1, 2, 8, 1000} {
		for _, make := range []func(*testing.T, Config) *end{liveOpened, liveAsked} {
			for _, secret := range []string{"", "s"} {
				e := make(t, with(func(c *Config) { c.Hello, c.Secret = hello, secret }))
				for range 5 {
					ticks(e.Tunnel, hello-1)
					outs(t, "the tick ahead", e.Tunnel)
					e.Tick()
					is(t, "the tick", e.Tunnel, look{Live, 5, 9, "far", 9})
					outs(t, "the tick", e.Tunnel, byhand.Ctl(9, 0, e.nr, e.ns, kind(6)))
					outs(t, "the tick", e.Tunnel)
					e.nr++
					takes(t, "its ack", e.Tunnel, e.says(""))
				}
			}
		}
	}
}

// Any message of this tunnel that the channel takes counts: an ack, one in its turn, doubled or ahead of it.
func TestP2105HelloWithMessages(t *testing.T) {
	type message func(e *end) string
	quiet := func(what string, m message, want int) {
		t.Helper()
		e := liveAsked(t, config())
		ticks(e.Tunnel, 5)
		b := m(e)
		e.Take(b)
		n := 0
		for e.Room() == 10 && n < 20 {
			e.Tick()
			n++
		}
		if n != want {
			t.Errorf("%s: a Hello behind 5 and %d ticks, not %d", what, n, want)
		}
	}
	for what, m := range map[string]message{
		"an ack":               func(e *end) string { return e.says("") },
		"an old ack":           func(e *end) string { return byhand.Ctl(5, 0, 1, 0, "") },
		"an ack of none":       func(e *end) string { return byhand.Ctl(5, 7, 65535, 9, "") },
		"a Hello":              func(e *end) string { return e.says(kind(6)) },
		"a call's message":     func(e *end) string { return e.says(kind(10)) },
		"of no use":            func(e *end) string { return e.says(sccrp()) },
		"doubled":              func(e *end) string { return byhand.Ctl(5, 0, 0, 0, sccrq()) },
		"ahead of its turn":    func(e *end) string { return byhand.Ctl(5, 0, 9, 1, kind(6)) },
		"not whole, but early": func(e *end) string { return byhand.Ctl(5, 0, 9, 1, kind(5)) },
	} {
		quiet(what, m, 8)
	}
	for what, m := range map[string]message{
		"no bytes":       func(e *end) string { return "" },
		"no message":     func(e *end) string { return e.says(kind(6)[:7]) },
		"another Id":     func(e *end) string { return byhand.Ctl(6, 0, e.ns, e.nr, kind(6)) },
		"0":              func(e *end) string { return byhand.Ctl(0, 0, e.ns, e.nr, kind(6)) },
		"a Sccrq to 0":   func(e *end) string { return byhand.Ctl(0, 0, 0, 0, sccrq(asks("?"))) },
		"a data message": func(e *end) string { return "\x40\x02\x00\x09\x00\x05\x00\x01x" },
		"hidden wrongly": func(e *end) string { return e.says(kind(6) + byhand.Value(16384, 0, 7, "xx")) },
	} {
		quiet(what, m, 3)
	}
	e := liveAsked(t, config()) // again and again
	for range 50 {
		ticks(e.Tunnel, 7)
		takes(t, "an ack", e.Tunnel, e.says(""))
		outs(t, "an ack", e.Tunnel)
	}
}

// What is sent does not count, only what comes; and behind a Hello the ticks are counted anew.
func TestP2105HelloAnew(t *testing.T) {
	e := liveAsked(t, with(func(c *Config) { c.Wait, c.Queue = 100, 40 }))
	ticks(e.Tunnel, 6)
	e.Send(1, nil)
	e.Out()
	e.Tick()
	is(t, "a message", e.Tunnel, look{Live, 5, 9, "far", 40})
	for n := range 30 {
		e.Tick()
		is(t, "a Hello", e.Tunnel, look{Live, 5, 9, "far", 39 - n})
		ticks(e.Tunnel, 7)
		is(t, "ahead of the next", e.Tunnel, look{Live, 5, 9, "far", 39 - n})
	}
}

// Of a full queue the Hello is lost; the ticks are counted anew none the less.
func TestP2105HelloOfAFullQueue(t *testing.T) {
	e := liveAsked(t, with(func(c *Config) { c.Secret, c.Queue = "", 1 }))
	e.Send(3, msg.Make(api.Cdn))
	ticks(e.Tunnel, 8)
	is(t, "full", e.Tunnel, look{Live, 5, 9, "far", 0})
	outs(t, "full", e.Tunnel, byhand.Ctl(9, 3, 1, 2, kind(14)))
	e.nr++
	takes(t, "an ack", e.Tunnel, e.says(""))
	ticks(e.Tunnel, 7)
	outs(t, "anew", e.Tunnel)
	e.Tick()
	outs(t, "anew", e.Tunnel, byhand.Ctl(9, 0, 2, 2, kind(6)))
}

// Who never hears an ack of its Hello gives up.
func TestP2105HelloInVain(t *testing.T) {
	e := liveOpened(t, config())
	n := 0
	for e.State() != Dead && n < 100 {
		e.Tick()
		e.Out()
		n++
	}
	if n != 8+3+6+12 {
		t.Errorf("Dead behind %d ticks", n)
	}
}

// sends holds an answer of Send.
func sends(t *testing.T, what string, e *Tunnel, session int, l []api.Avp, want api.Errno) {
	t.Helper()
	before := seen(e)
	if got := e.Send(session, l); got != want {
		t.Errorf("%s: Send(%d, %v) = %d, not %d", what, session, l, got, want)
	}
	if want == api.OK {
		before.room--
	}
	is(t, what, e, before)
}

func TestP2105Send(t *testing.T) {
	everyStart(t, func(s start, c Config, e *end) {
		l := msg.Make(api.Icrq, avp.Num(api.AvpSession, 7, 2), api.Avp{Vendor: 9, Type: 65535, Value: "x"})
		want := kind(10) + must(14, "\x00\x07") + byhand.Value(0, 9, 65535, "x")
		for _, session := range []int{0, 1, 5, 258, 65535} {
			if s.look.state != Live {
				sends(t, s.what, e.Tunnel, session, l, api.ErrState)
				outs(t, s.what, e.Tunnel)
				continue
			}
			sends(t, s.what, e.Tunnel, session, l, api.OK)
			outs(t, s.what, e.Tunnel, byhand.Ctl(9, session, e.nr, e.ns, want))
			is(t, s.what, e.Tunnel, s.look)
			e.nr++
			takes(t, s.what, e.Tunnel, e.says(""))
		}
		state := api.ErrState
		for _, x := range []struct {
			session int
			l       []api.Avp
			err     api.Errno
		}{
			{-1, l, api.ErrArg}, {65536, l, api.ErrArg}, {-65536, nil, api.ErrArg}, {1 << 32, l, api.ErrArg}, {math.MinInt, l, api.ErrArg}, {math.MaxInt, nil, api.ErrArg},
			{-1, []api.Avp{{Value: long(1001)}}, api.ErrArg},
			{0, []api.Avp{{Vendor: -1}}, api.ErrArg}, {0, []api.Avp{{Type: 65536}}, api.ErrArg}, {0, []api.Avp{{Value: long(1001)}}, api.ErrLong},
			{0, make([]api.Avp, 41), api.ErrLong}, {0, []api.Avp{{Value: long(1000)}, {Value: long(477)}}, api.ErrLong},
		} {
			if s.look.state == Live {
				state = x.err
			}
			sends(t, s.what, e.Tunnel, x.session, x.l, state)
			outs(t, s.what, e.Tunnel)
		}
	})
}

func long(n int) string { return string(make([]byte, n)) }

// Messages of no values, of the most that may be, and hidden ones.
func TestP2105SendAllKinds(t *testing.T) {
	vector := api.Avp{Must: true, Type: 36, Value: "vector"}
	hidden := api.Avp{Hidden: true, Type: 30, Value: "name"}
	for _, c := range []Config{config(), bare()} {
		e := liveOpened(t, c)
		for _, l := range [][]api.Avp{
			nil, {}, {{}}, make([]api.Avp, 40), {{Value: long(1000)}, {Value: long(476)}}, {{Must: true, Vendor: 65535, Type: 65535}},
			{{Type: 1, Value: "\xff"}, {Type: 1, Value: ""}},
		} {
			values := ""
			for _, a := range l {
				flags := 0
				if a.Must {
					flags = 32768
				}
				values += byhand.Value(flags, a.Vendor, a.Type, a.Value)
			}
			sends(t, "any", e.Tunnel, 7, l, api.OK)
			outs(t, "any", e.Tunnel, byhand.Ctl(9, 7, e.nr, e.ns, values))
			e.nr++
			e.Take(e.says(""))
		}
		sends(t, "no vector", e.Tunnel, 7, []api.Avp{hidden}, map[string]api.Errno{"s": api.ErrMust, "": api.ErrAuth}[c.Secret])
		if c.Secret == "" {
			sends(t, "hidden", e.Tunnel, 7, []api.Avp{vector, hidden}, api.ErrAuth)
			continue
		}
		sends(t, "hidden", e.Tunnel, 7, []api.Avp{vector, hidden}, api.OK)
		values, _ := avp.Put([]api.Avp{vector, hidden}, "s")
		outs(t, "hidden", e.Tunnel, byhand.Ctl(9, 7, e.nr, e.ns, values))
	}
}

// What is sent waits, up to the queue; errors are looked for in their order.
func TestP2105SendToAFullQueue(t *testing.T) {
	e := liveOpened(t, bare())
	for n := range 10 {
		sends(t, "room", e.Tunnel, n, avps(10), api.OK)
	}
	sends(t, "full", e.Tunnel, 0, avps(10), api.ErrFull)
	sends(t, "full", e.Tunnel, -1, avps(10), api.ErrArg)
	sends(t, "full", e.Tunnel, 0, []api.Avp{{Vendor: -1}}, api.ErrArg)
	sends(t, "full", e.Tunnel, 0, []api.Avp{{Value: long(1001)}}, api.ErrLong)
	outs(t, "three", e.Tunnel, byhand.Ctl(9, 0, 2, 1, kind(10)), byhand.Ctl(9, 1, 3, 1, kind(10)), byhand.Ctl(9, 2, 4, 1, kind(10)))
	is(t, "three", e.Tunnel, look{Live, 5, 9, "far", 3})
	for range 3 {
		sends(t, "room", e.Tunnel, 65535, avps(14), api.OK)
	}
	sends(t, "full", e.Tunnel, 0, avps(10), api.ErrFull)
	outs(t, "none is acked", e.Tunnel)
}

// What is handed in is neither changed nor kept.
func TestP2105SendKeepsNothing(t *testing.T) {
	e := liveOpened(t, bare())
	l := make([]api.Avp, 1, 4)
	l[0] = api.Avp{Must: true, Value: "\x00\x0a"}
	sends(t, "a list", e.Tunnel, 1, l, api.OK)
	if got := l[:4]; got[0].Value != "\x00\x0a" || got[1] != (api.Avp{}) || got[3] != (api.Avp{}) {
		t.Errorf("the list is changed: %v", got)
	}
	l[0].Value = "changed"
	outs(t, "a list", e.Tunnel, byhand.Ctl(9, 1, 2, 1, kind(10)))
}
