package tunnel

import (
	"slices"
	"strings"
	"testing"

	"tollgate/api"
	"tollgate/byhand"
	"tollgate/msg"
	"tollgate/tape"
)

// P2102 and P2103: the messages that a tunnel sends, Open and Close.

// drawn makes an end, and tells its tape.
func drawn(t *testing.T, c Config) (*end, *tape.Tape) {
	t.Helper()
	draws := tape.New(count(1, 60))
	e, err := New(c, draws)
	if err != api.OK {
		t.Fatalf("New(%v) = %d", c, err)
	}
	return &end{Tunnel: e}, draws
}

// left holds how many of 60 draws were taken.
func taken(t *testing.T, what string, draws *tape.Tape, want int) {
	t.Helper()
	if got := 60 - draws.Left(); got != want {
		t.Errorf("%s: %d draws are taken, not %d", what, got, want)
	}
}

// selves tells configs whose ends say each something else of themselves.
func selves() []Config {
	return []Config{
		config(),
		{Name: "n", Secret: "secret", Id: 1, Window: 1, Queue: 1, Retry: 0, Wait: 1, Hello: 1},
		{Name: strings.Repeat("\xff", 40), Secret: strings.Repeat("\x00", 60), Id: 65535, Window: 64, Queue: 40, Retry: 10, Wait: 100, Hello: 1000},
		{Name: "\x00a", Secret: "\xff", Id: 258, Window: 32, Queue: 40, Retry: 10, Wait: 100, Hello: 1000},
	}
}

func TestP2102Sccrq(t *testing.T) {
	for _, c := range selves() {
		e, draws := drawn(t, c)
		e.Open()
		taken(t, "Sccrq", draws, 24)
		own := kind(1) + about(c.Name, c.Id, c.Window)
		outs(t, "Sccrq", e.Tunnel, byhand.Ctl(0, 0, 0, 0, own+tied(run(1, 8))+asks(run(9, 16))))
		taken(t, "Sccrq", draws, 24)

		c.Secret = ""
		e, draws = drawn(t, c)
		e.Open()
		outs(t, "Sccrq without a secret", e.Tunnel, byhand.Ctl(0, 0, 0, 0, own+tied(run(1, 8))))
		taken(t, "Sccrq without a secret", draws, 8)
	}
}

// Draws are bytes, whatever numbers the tape has, also behind its end.
func TestP2102Draws(t *testing.T) {
	e := made(t, config(), -1, 256, 511, -257)
	e.Open()
	outs(t, "Sccrq", e, byhand.Ctl(0, 0, 0, 0, kind(1)+about("near", 5, 4)+
		tied("\xff\x00\xff\xff\x07\x0e\x15\x1c")+asks("\x23\x2a\x31\x38\x3f\x46\x4d\x54\x5b\x62\x69\x70\x77\x7e\x85\x8c")))
}

func TestP2102Sccrp(t *testing.T) {
	for _, c := range selves() {
		for _, challenge := range []string{"", "?", run(1, 16), strings.Repeat("\xff", 1000)} {
			e, draws := drawn(t, c)
			e.Take(byhand.Ctl(0, 0, 0, 0, sccrq(asks(challenge))))
			taken(t, "Sccrp", draws, 16)
			own := kind(2) + about(c.Name, c.Id, c.Window)
			outs(t, "Sccrp", e.Tunnel, byhand.Ctl(9, 0, 0, 1, own+answers(2, c.Secret, challenge)+asks(run(1, 16))))
			taken(t, "Sccrp", draws, 16)
		}
		c.Secret = ""
		e, draws := drawn(t, c)
		e.Take(byhand.Ctl(0, 0, 0, 0, sccrq()))
		outs(t, "Sccrp without a secret", e.Tunnel, byhand.Ctl(9, 0, 0, 1, kind(2)+about(c.Name, c.Id, c.Window)))
		taken(t, "Sccrp without a secret", draws, 0)
	}
}

func TestP2102Scccn(t *testing.T) {
	for _, c := range selves() {
		for _, challenge := range []string{"", "?", run(1, 16), strings.Repeat("\xff", 1000)} {
			e, draws := drawn(t, c)
			e.Open()
			e.drains()
			e.hears(sccrp(answers(2, c.Secret, run(9, 16)), asks(challenge)))
			outs(t, "Scccn", e.Tunnel, byhand.Ctl(9, 0, 1, 1, kind(3)+answers(3, c.Secret, challenge)))
			taken(t, "Scccn", draws, 24)
		}
		c.Secret = ""
		e, draws := drawn(t, c)
		e.Open()
		e.drains()
		e.hears(sccrp())
		outs(t, "Scccn without a secret", e.Tunnel, byhand.Ctl(9, 0, 1, 1, kind(3)))
		taken(t, "Scccn without a secret", draws, 8)
	}
}

func TestP2102Stopccn(t *testing.T) {
	for _, c := range selves() {
		e, draws := drawn(t, c)
		e.hears(sccrq(asks("?")))
		e.drains()
		e.Close()
		outs(t, "code 1", e.Tunnel, byhand.Ctl(9, 0, 1, 1, stop(c.Id, 1)))
		taken(t, "code 1", draws, 16)

		e, draws = drawn(t, c)
		e.hears(kind(1))
		outs(t, "code 2", e.Tunnel, byhand.Ctl(0, 0, 0, 1, stop(c.Id, 2)))
		taken(t, "code 2", draws, 0)

		e, draws = drawn(t, c)
		e.hears(sccrq())
		outs(t, "code 4", e.Tunnel, byhand.Ctl(9, 0, 0, 1, stop(c.Id, 4)))
		taken(t, "code 4", draws, 0)
	}
}

func TestP2102Hello(t *testing.T) {
	for _, c := range selves() {
		e, draws := drawn(t, c)
		e.hears(sccrq(asks("?")))
		e.drains()
		e.hears(scccn(answers(3, c.Secret, run(1, 16))))
		e.drains()
		ticks(e.Tunnel, c.Hello)
		outs(t, "Hello", e.Tunnel, byhand.Ctl(9, 0, 1, 2, kind(6)))
		taken(t, "Hello", draws, 16)
	}
}

// Each value of each message is Must, none is hidden, and msg finds the message whole.
func TestP2102AllMust(t *testing.T) {
	for _, c := range []Config{config(), bare()} {
		var all []string
		for _, s := range starts() {
			e := s.make(t, c)
			all = append(all, s.make(t, c).drains()...)
			e.Close()
			ticks(e.Tunnel, c.Hello)
			all = append(all, e.drains()...)
		}
		for _, b := range all {
			m, err := msg.Get(b, c.Secret)
			if err != api.OK || msg.Check(m) != api.OK || m.Session != 0 {
				t.Errorf("%x: %v, %d", b, m, err)
			}
			for _, a := range m.Avps {
				if !a.Must || a.Hidden || a.Vendor != 0 {
					t.Errorf("%x: %v", b, a)
				}
			}
		}
	}
}

func TestP2103Open(t *testing.T) {
	everyStart(t, func(s start, c Config, e *end) {
		if s.look.state != Idle {
			if err := e.Open(); err != api.ErrState {
				t.Errorf("%s: Open() = %d", s.what, err)
			}
			is(t, s.what, e.Tunnel, s.look)
			outs(t, s.what, e.Tunnel)
			return
		}
		if err := e.Open(); err != api.OK {
			t.Errorf("%s: Open() = %d", s.what, err)
		}
		is(t, s.what, e.Tunnel, look{WaitReply, 5, 0, "", 9})
		if err := e.Open(); err != api.ErrState {
			t.Errorf("%s: Open() = %d for the second time", s.what, err)
		}
		is(t, s.what, e.Tunnel, look{WaitReply, 5, 0, "", 9})
		if got := e.Out(); len(got) != 1 {
			t.Errorf("%s: Out() = %x", s.what, got)
		}
		outs(t, s.what, e.Tunnel)
		is(t, s.what, e.Tunnel, look{WaitReply, 5, 0, "", 10})
	})
}

// What came ahead of Open is acked by it.
func TestP2103OpenBehindOthers(t *testing.T) {
	e := idle(t, bare())
	e.hears(kind(6))
	e.hears(kind(6))
	e.Open()
	outs(t, "Open", e.Tunnel, byhand.Ctl(0, 0, 0, 2, kind(1)+about("near", 5, 4)+tied(run(1, 8))))
}

func TestP2103Close(t *testing.T) {
	everyStart(t, func(s start, c Config, e *end) {
		want := s.look
		want.state, want.room = Dead, 0
		var said []string
		switch s.look.state {
		case WaitReply, WaitConn, Live:
			said = []string{byhand.Ctl(s.look.peer, 0, e.nr, e.ns, stop(5, 1))}
		}
		for range 2 {
			e.Close()
			is(t, s.what, e.Tunnel, want)
		}
		outs(t, s.what, e.Tunnel, said...)
		is(t, s.what, e.Tunnel, want)
		for range 3 {
			outs(t, s.what, e.Tunnel)
			e.Close()
			is(t, s.what, e.Tunnel, want)
		}
	})
}

// Its peer, and itself, say nothing any more behind what Out told then: neither by ticks nor by what comes.
func TestP2103CloseIsTheEnd(t *testing.T) {
	everyStart(t, func(s start, c Config, e *end) {
		e.Close()
		e.Out()
		want := seen(e.Tunnel)
		for range 100 {
			e.Tick()
			e.hears(kind(6))
			takes(t, s.what, e.Tunnel, byhand.Ctl(0, 0, 0, 0, sccrq(dares(c))))
			outs(t, s.what, e.Tunnel)
		}
		is(t, s.what, e.Tunnel, want)
	})
}

// What waits or is owed as it is closed is told with the Stopccn; what there is no room for is not.
func TestP2103CloseWithMore(t *testing.T) {
	e := idle(t, bare())
	e.Open()
	e.Close()
	outs(t, "Sccrq was not told", e.Tunnel, byhand.Ctl(0, 0, 0, 0, kind(1)+about("near", 5, 4)+tied(run(1, 8))))
	outs(t, "Sccrq was not told", e.Tunnel)

	e = idle(t, bare())
	e.Open()
	e.Out()
	e.Close()
	outs(t, "Sccrq flies, and there is room for one", e.Tunnel)
	outs(t, "Sccrq flies, and there is room for one", e.Tunnel)

	e = liveOpened(t, bare()) // two were acked: there is room for three
	for n := range 2 {
		e.Send(n, msg.Make(api.Icrq))
	}
	e.Close()
	outs(t, "two wait", e.Tunnel,
		byhand.Ctl(9, 0, 2, 1, kind(10)), byhand.Ctl(9, 1, 3, 1, kind(10)), byhand.Ctl(9, 0, 4, 1, stop(5, 1)))
	outs(t, "two wait", e.Tunnel)

	e = liveOpened(t, bare())
	for n := range 4 {
		e.Send(n, msg.Make(api.Icrq))
	}
	e.hears(kind(6))
	e.Close()
	outs(t, "four wait, and an ack is owed", e.Tunnel,
		byhand.Ctl(9, 0, 2, 2, kind(10)), byhand.Ctl(9, 1, 3, 2, kind(10)), byhand.Ctl(9, 2, 4, 2, kind(10)))
	outs(t, "four wait, and an ack is owed", e.Tunnel)

	e = liveAsked(t, bare())
	e.Send(7, msg.Make(api.Icrq))
	e.Out()
	e.Send(8, msg.Make(api.Icrq))
	e.Out()
	e.hears(kind(6))
	e.nr++
	e.Close()
	outs(t, "two fly, and an ack is owed", e.Tunnel, byhand.Ctl(9, 0, 0, 0, "")[:8]+byhand.Words(3, 3))
	outs(t, "two fly, and an ack is owed", e.Tunnel)
}

// Of a full queue a Stopccn is lost; it is Dead none the less, and Out tells what waits.
func TestP2103CloseOfAFullQueue(t *testing.T) {
	e := liveOpened(t, with(func(c *Config) { c.Secret, c.Queue = "", 2 }))
	e.Send(1, msg.Make(api.Icrq))
	e.Send(2, msg.Make(api.Icrq))
	e.Close()
	is(t, "a full queue", e.Tunnel, look{Dead, 5, 9, "far", 0})
	outs(t, "a full queue", e.Tunnel, byhand.Ctl(9, 1, 2, 1, kind(10)), byhand.Ctl(9, 2, 3, 1, kind(10)))
	outs(t, "a full queue", e.Tunnel)
}

// As the channel's Out is then: the channel's ticks go on behind Close, until Out has told all, once.
func TestP2103TicksBehindClose(t *testing.T) {
	sent := byhand.Ctl(0, 0, 0, 0, kind(1)+about("near", 5, 4)+tied(run(1, 8)))
	for n, want := range map[int][]string{2: nil, 3: {sent}, 8: {sent}, 9: {sent}, 20: {sent}, 21: nil} {
		e := idle(t, bare())
		e.Open()
		e.Out()
		e.Close()
		ticks(e.Tunnel, n)
		outs(t, "ticks", e.Tunnel, want...)
		outs(t, "ticks", e.Tunnel)
		ticks(e.Tunnel, 30)
		outs(t, "ticks", e.Tunnel)
		is(t, "ticks", e.Tunnel, look{Dead, 5, 0, "", 0})
	}
	e := liveOpened(t, bare())
	e.Close()
	ticks(e.Tunnel, 100)
	outs(t, "nothing flies", e.Tunnel, byhand.Ctl(9, 0, 2, 1, stop(5, 1)))
	outs(t, "nothing flies", e.Tunnel)
}

// Two asks for a Stopccn leave one.
func TestP2103CloseBehindAnother(t *testing.T) {
	e := idle(t, config())
	e.hears(sccrq())
	e.Close()
	outs(t, "Close behind code 4", e.Tunnel, byhand.Ctl(9, 0, 0, 1, stop(5, 4)))
	e = liveOpened(t, config())
	e.hears(stop(9, 1))
	e.Close()
	if got, want := e.Out(), []string{byhand.Ctl(9, 0, 2, 2, "")}; !slices.Equal(got, want) {
		t.Errorf("Close behind one that was heard: %x, not %x", got, want)
	}
	outs(t, "Close behind one that was heard", e.Tunnel)
}
