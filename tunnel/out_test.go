package tunnel

import (
	"math"
	"strings"
	"testing"

	"tollgate/api"
	"tollgate/byhand"
	"tollgate/tape"
)

// P2106 and P2108: Out, and what can be asked, also of none.

// All that is told, behind each step of some ways.
func TestP2106Told(t *testing.T) {
	c := with(func(c *Config) { c.Secret, c.Queue = "", 3 })
	e := &end{Tunnel: made(t, c, count(1, 20)...)}
	ask := kind(1) + about("near", 5, 4) + tied(run(1, 8))
	call := []api.Avp{{Must: true, Value: "\x00\x0a"}}
	for _, x := range []struct {
		what string
		do   func()
		want look
		out  []string
	}{
		{"New", func() {}, look{Idle, 5, 0, "", 3}, nil},
		{"a Hello", func() { e.hears(kind(6)) }, look{Idle, 5, 0, "", 3}, []string{byhand.Ctl(0, 0, 0, 1, "")}},
		{"Open", func() { e.Open() }, look{WaitReply, 5, 0, "", 2}, []string{byhand.Ctl(0, 0, 0, 1, ask)}},
		{"nothing", func() {}, look{WaitReply, 5, 0, "", 3}, nil},
		{"two ticks", func() { ticks(e.Tunnel, 2) }, look{WaitReply, 5, 0, "", 3}, nil},
		{"the third", func() { e.Tick() }, look{WaitReply, 5, 0, "", 3}, []string{byhand.Ctl(0, 0, 0, 1, ask)}},
		{"a Hello", func() { e.hears(kind(6)) }, look{WaitReply, 5, 0, "", 3}, []string{byhand.Ctl(0, 0, 1, 2, "")}},
		{"Sccrp, which acks none", func() { e.hears(sccrp()) }, look{Live, 5, 9, "far", 2}, []string{byhand.Ctl(9, 0, 1, 3, "")}},
		{"an ack", func() { e.Take(byhand.Ctl(5, 0, 3, 1, "")) }, look{Live, 5, 9, "far", 2}, []string{byhand.Ctl(9, 0, 1, 3, kind(3))}},
		{"an ack", func() { e.Take(byhand.Ctl(5, 0, 3, 2, "")) }, look{Live, 5, 9, "far", 3}, nil},
		{"calls' messages", func() { e.Send(1, call); e.Send(258, call) }, look{Live, 5, 9, "far", 1},
			[]string{byhand.Ctl(9, 1, 2, 3, kind(10)), byhand.Ctl(9, 258, 3, 3, kind(10))}},
		{"the queue", func() { e.Send(1, call); e.Send(2, call); e.Send(3, call); e.Send(4, call) }, look{Live, 5, 9, "far", 0},
			[]string{byhand.Ctl(9, 1, 4, 3, kind(10))}},
		{"a call's message", func() { e.hears(kind(14)) }, look{Live, 5, 9, "far", 1}, []string{byhand.Ctl(9, 0, 5, 4, "")}},
		{"three ticks", func() { ticks(e.Tunnel, 3) }, look{Live, 5, 9, "far", 1}, []string{byhand.Ctl(9, 1, 2, 4, kind(10))}},
		{"eight in which nothing came", func() { ticks(e.Tunnel, 5) }, look{Live, 5, 9, "far", 0}, nil},
		{"an ack of all", func() { e.Take(byhand.Ctl(5, 0, 4, 5, "")) }, look{Live, 5, 9, "far", 0},
			[]string{byhand.Ctl(9, 2, 5, 4, kind(10)), byhand.Ctl(9, 3, 6, 4, kind(10)), byhand.Ctl(9, 0, 7, 4, kind(6))}},
		{"an ack of all", func() { e.Take(byhand.Ctl(5, 0, 4, 8, "")) }, look{Live, 5, 9, "far", 3}, nil},
		{"Close", func() { e.Close() }, look{Dead, 5, 9, "far", 0}, []string{byhand.Ctl(9, 0, 8, 4, stop(5, 1))}},
		{"nothing", func() {}, look{Dead, 5, 9, "far", 0}, nil},
		{"Open", func() { e.Open() }, look{Dead, 5, 9, "far", 0}, nil},
		{"whatever comes", func() { e.hears(kind(6)); e.hears(sccrq()) }, look{Dead, 5, 9, "far", 0}, nil},
	} {
		x.do()
		for range 3 { // asking changes nothing
			is(t, x.what, e.Tunnel, x.want)
		}
		outs(t, x.what, e.Tunnel, x.out...)
	}
}

// Behind a death without a message there is nothing to tell: not what waits, not what is owed, nor what is to be sent again.
func TestP2106DeadWithoutAMessage(t *testing.T) {
	dead := func(what string, e *end) {
		t.Helper()
		if e.State() != Dead || e.Room() != 0 {
			t.Errorf("%s: %+v", what, seen(e.Tunnel))
		}
		for range 3 {
			outs(t, what, e.Tunnel)
			e.Close()
			e.Tick()
			e.hears(stop(9, 1))
		}
	}
	e := idle(t, config())
	e.hears(kind(6))
	e.Close()
	dead("closed in Idle", e)
	e = idle(t, config())
	e.Open()
	e.hears(kind(6))
	takes(t, "the same tie", e.Tunnel, byhand.Ctl(0, 0, 0, 0, rival(config(), run(1, 8))))
	dead("the same tie", e)
	e = idle(t, config())
	e.Open()
	e.hears(kind(6))
	ticks(e.Tunnel, 24)
	dead("waited", e)
	e = idle(t, config())
	e.hears(sccrq(asks("?")))
	ticks(e.Tunnel, 24)
	dead("waited for Scccn", e)
	e = liveAsked(t, config())
	e.Send(1, nil)
	e.Out()
	e.Send(1, nil)
	e.hears(kind(6))
	ticks(e.Tunnel, 21)
	dead("gave up", e)
}

// A channel that gives up between a Stopccn and Out has nothing to say, either.
func TestP2106DeadTwice(t *testing.T) {
	for n, want := range map[int]int{20: 1, 21: 0, 22: 0} {
		e := liveAsked(t, config())
		e.Send(1, nil)
		e.Out()
		e.Close()
		ticks(e.Tunnel, n)
		if got := len(e.Out()); got != want {
			t.Errorf("behind %d ticks: %d are told, not %d", n, got, want)
		}
		outs(t, "behind it", e.Tunnel)
	}
}

// Messages go to the peer's id as it is then; what is sent again, too.
func TestP2106ToThePeer(t *testing.T) {
	e := idle(t, bare())
	e.Open()
	outs(t, "no peer yet", e.Tunnel, byhand.Ctl(0, 0, 0, 0, kind(1)+about("near", 5, 4)+tied(run(1, 8))))
	takes(t, "Sccrp that acks none", e.Tunnel, byhand.Ctl(5, 0, 0, 0, kind(2)+about("far", 65535, 4)))
	ticks(e.Tunnel, 3)
	outs(t, "again", e.Tunnel, byhand.Ctl(65535, 0, 0, 1, kind(1)+about("near", 5, 4)+tied(run(1, 8))))
}

// What is answered is new memory.
func TestP2106OutIsNew(t *testing.T) {
	e := idle(t, config())
	e.Open()
	first := e.Out()
	want := first[0]
	first[0] = "changed"
	ticks(e.Tunnel, 3)
	outs(t, "again", e.Tunnel, want)
}

// none holds all that an end which is none answers.
func none(t *testing.T, e *Tunnel) {
	t.Helper()
	for range 2 {
		if err := e.Open(); err != api.ErrState {
			t.Errorf("Open() of none = %d", err)
		}
		for _, session := range []int{-1, 0, 1, 65535, 65536, math.MinInt, math.MaxInt} {
			for _, l := range [][]api.Avp{nil, avps(10), {{Vendor: -1}}, make([]api.Avp, 41)} {
				if err := e.Send(session, l); err != api.ErrState {
					t.Errorf("Send(%d, %v) of none = %d", session, l, err)
				}
			}
		}
		for _, id := range []int{0, 1, 5} {
			for _, values := range []string{"", sccrq(), sccrq(asks("?")), sccrp(), scccn(), stop(9, 1), kind(6), kind(10), kind(5)} {
				takes(t, "none", e, byhand.Ctl(id, 0, 0, 0, values))
			}
		}
		takes(t, "none", e, "")
		takes(t, "none", e, strings.Repeat("\xff", 100))
		e.Tick()
		e.Close()
		outs(t, "none", e)
		is(t, "none", e, look{state: Dead})
	}
}

func TestP2108Nil(t *testing.T) { none(t, nil) }

func TestP2108Zero(t *testing.T) {
	none(t, new(Tunnel))
	none(t, &Tunnel{})
	var in struct{ e Tunnel }
	none(t, &in.e)
}

// What New answers with an error is a nil Tunnel, and is as one.
func TestP2108OfNew(t *testing.T) {
	e, _ := New(Config{}, tape.New(nil))
	none(t, e)
}
