package lcp

import (
	"testing"

	"tollgate/api"
)

// P1204.

// echoing tells config with that Echo.
func echoing(echo int) Config { return with(func(c *Config) { c.Echo = echo }) }

// echo tells the packet that asks whether somebody is there.
func echo(id int) api.Packet { return bare(api.EchoReq, id, seven) }

// asked holds that behind just so many ticks an echo is asked for.
func asked(t *testing.T, what string, l *Lcp, n, id int) {
	t.Helper()
	ticks(t, what, l, n-1)
	says(t, what+": the last tick", l.Tick(), echo(id))
}

// Each Echo ticks an echo; those that are not answered are missed, and behind three of them it is closed.
func TestP1204Missed(t *testing.T) {
	for _, n := range []int{1, 2, 3, 10, 99, 100} {
		l := in(t, echoing(n), api.Opened)
		for id := 2; id <= 4; id++ {
			asked(t, "missed", l, n, id)
			is(t, "missed", l, api.Opened)
		}
		ticks(t, "up to the end", l, n-1)
		is(t, "up to the end", l, api.Opened)
		came(t, "up to the end", l, 1, 0)
		says(t, "the end", l.Tick(), bare(api.TermReq, 5, ""))
		is(t, "the end", l, api.Closing)
		came(t, "the end", l, 1, 1)
		// From here on it is chapter 11's.
		ticks(t, "Closing", l, 1)
		says(t, "Closing", l.Tick(), bare(api.TermReq, 6, ""))
		ticks(t, "Closing", l, 2)
		is(t, "Closing", l, api.Closed)
		ticks(t, "Closed", l, 3*n)
	}
}

// An echo that is answered, however, is not missed, nor any ahead of it.
func TestP1204Answered(t *testing.T) {
	for missed := range 4 {
		l := in(t, echoing(2), api.Opened)
		id := 1
		for range 5 {
			for range missed {
				id++
				asked(t, "missed", l, 2, id)
			}
			says(t, "the answer", l.Take(bare(api.EchoRep, 200, "whatever")))
		}
		for range 3 {
			id++
			asked(t, "behind it", l, 2, id)
		}
		ticks(t, "the end", l, 1)
		says(t, "the end", l.Tick(), bare(api.TermReq, id+1, ""))
		is(t, "the end", l, api.Closing)
	}
}

// An answer does not count the ticks anew; nor does anything else that leaves it Opened.
func TestP1204TicksGoOn(t *testing.T) {
	for what, do := range map[string]func(*Lcp){
		"an answer":         func(l *Lcp) { l.Take(bare(api.EchoRep, 1, "")) },
		"an echo":           func(l *Lcp) { l.Take(bare(api.EchoReq, 1, "")) },
		"Discard":           func(l *Lcp) { l.Take(bare(api.Discard, 1, "")) },
		"ProtRej":           func(l *Lcp) { l.Take(bare(api.ProtRej, 1, "")) },
		"another Id":        func(l *Lcp) { l.Take(pk(api.ConfNak, 9)) },
		"Open":              func(l *Lcp) { l.Do(api.Open) },
		"Up":                func(l *Lcp) { l.Do(api.Up) },
		"Adopt, not by now": func(l *Lcp) { l.Adopt(nil, nil) },
		"to be asked": func(l *Lcp) {
			l.Mine()
			l.Theirs()
			l.Auth()
			l.Mru()
			l.Ups()
			l.Loops()
		},
		"Reject of none": func(l *Lcp) { l.Reject(-1, "") },
	} {
		l := in(t, echoing(5), api.Opened)
		ticks(t, what, l, 3)
		do(l)
		asked(t, what, l, 2, 2)
	}
}

// Where something is answered that was not asked for, nothing is saved up.
func TestP1204UnaskedAnswers(t *testing.T) {
	l := in(t, echoing(1), api.Opened)
	for range 10 {
		l.Take(bare(api.EchoRep, 1, ""))
	}
	for id := 2; id <= 4; id++ {
		asked(t, "an echo", l, 1, id)
	}
	says(t, "the end", l.Tick(), bare(api.TermReq, 5, ""))
}

// Without Echo nobody is asked.
func TestP1204NoEcho(t *testing.T) {
	l := in(t, echoing(0), api.Opened)
	ticks(t, "Echo 0", l, 500)
	is(t, "Echo 0", l, api.Opened)
	came(t, "Echo 0", l, 1, 0)
	says(t, "Reject", l.Reject(1, ""), bare(api.ProtRej, 2, "\x00\x01"))
}

// Ticks count in Opened alone.
func TestP1204OtherStates(t *testing.T) {
	for state, name := range states[:api.Opened] {
		l := in(t, with(func(c *Config) { c.Echo, c.Wait = 1, 100 }), state)
		ticks(t, name, l, 50)
		is(t, name, l, state)
	}
	l := in(t, with(func(c *Config) { c.Echo, c.Wait = 3, 100 }), api.AckSent)
	ticks(t, "AckSent", l, 50)
	l.Take(pk(api.ConfAck, 1, magic(seven)))
	is(t, "the ack", l, api.Opened)
	asked(t, "Opened", l, 3, 2)
}

// The ticks are counted anew when it comes up, whichever way it went down and came up.
func TestP1204ComingUpAnew(t *testing.T) {
	for what, again := range map[string]func(*Lcp){
		"a request": func(l *Lcp) {
			l.Take(pk(api.ConfReq, 50)) // the ConfReq 3, since an echo had the Id 2
			l.Take(pk(api.ConfAck, 3, magic(seven)))
		},
		"Down and Up": func(l *Lcp) {
			l.Do(api.Down)
			l.Do(api.Up)
			l.Take(pk(api.ConfReq, 50))
			l.Take(pk(api.ConfAck, 3, magic(seven)))
		},
		"Down, ticks and Adopt": func(l *Lcp) {
			l.Do(api.Down)
			l.Tick()
			l.Tick()
			l.Adopt(nil, nil)
			l.Reject(1, "") // an Id, as the others take one
		},
	} {
		for so := range 4 {
			l := in(t, echoing(4), api.Opened)
			asked(t, what, l, 4, 2)
			l.Take(bare(api.EchoRep, 2, ""))
			ticks(t, what, l, so)
			again(l)
			is(t, what, l, api.Opened)
			came(t, what, l, 2, 1)
			asked(t, what, l, 4, 4)
		}
	}
}

// Missed echoes are missed until an answer comes, in Opened: coming up anew is none.
func TestP1204MissedAcrossComingUp(t *testing.T) {
	l := in(t, echoing(2), api.Opened)
	asked(t, "one", l, 2, 2)
	asked(t, "two", l, 2, 3)
	l.Take(pk(api.ConfReq, 50))
	is(t, "down", l, api.AckSent)
	l.Take(bare(api.EchoRep, 3, "")) // which comes too late
	l.Take(pk(api.ConfAck, 4, magic(seven)))
	is(t, "up", l, api.Opened)
	asked(t, "three", l, 2, 5)
	ticks(t, "the end", l, 1)
	says(t, "the end", l.Tick(), bare(api.TermReq, 6, ""))
	is(t, "the end", l, api.Closing)

	// Also behind the end itself, where it is opened again.
	l.Take(bare(api.TermAck, 6, ""))
	says(t, "Open", l.Do(api.Open), pk(api.ConfReq, 7, magic(seven)))
	l.Take(pk(api.ConfReq, 51))
	l.Take(pk(api.ConfAck, 7, magic(seven)))
	is(t, "up again", l, api.Opened)
	ticks(t, "up again", l, 1)
	says(t, "nobody answered yet", l.Tick(), bare(api.TermReq, 8, ""))

	l.Take(bare(api.TermAck, 8, ""))
	l.Do(api.Open)
	l.Take(pk(api.ConfReq, 52))
	l.Take(pk(api.ConfAck, 9, magic(seven)))
	l.Take(bare(api.EchoRep, 0, ""))
	asked(t, "somebody answered", l, 2, 10)
}

// Chapter 11's ticks go on beside.
func TestP1204TicksOfNegotiation(t *testing.T) {
	l := in(t, with(func(c *Config) { c.Echo, c.Wait, c.Configure = 1, 3, 2 }), api.ReqSent)
	ticks(t, "ReqSent", l, 2)
	says(t, "Wait", l.Tick(), pk(api.ConfReq, 2, magic(seven)))
	ticks(t, "the last", l, 3)
	is(t, "the last", l, api.Stopped)
	ticks(t, "Stopped", l, 10)
}

// The Magic in an echo is this end's, as it is by then.
func TestP1204TheMagic(t *testing.T) {
	for number, want := range map[int]string{0: nought, 1: "\x00\x00\x00\x01", 0x01020304: "\x01\x02\x03\x04", 1<<32 - 1: most} {
		l := in(t, with(func(c *Config) { c.Echo, c.Magic = 1, number }), api.Opened)
		says(t, "an echo", l.Tick(), bare(api.EchoReq, 2, want))
	}
	l := in(t, echoing(1), api.ReqSent)
	l.Take(pk(api.ConfNak, 1, magic("abcd")))
	l.Take(pk(api.ConfReq, 50))
	l.Take(pk(api.ConfAck, 2, magic("abcd")))
	says(t, "another Magic", l.Tick(), bare(api.EchoReq, 3, "abcd"))
	// A link that was taken over has the Magic that it was made with.
	l = made(t, echoing(1), nil)
	l.Adopt([]api.Option{magic("abcd")}, nil)
	says(t, "adopted", l.Tick(), bare(api.EchoReq, 1, seven))
}

// Ids of echoes are of the one row, and wrap.
func TestP1204Ids(t *testing.T) {
	l := in(t, echoing(1), api.Opened)
	for i := 2; i < 600; i++ {
		says(t, "an echo", l.Tick(), echo(i%256))
		l.Take(bare(api.EchoRep, 0, ""))
		if t.Failed() {
			t.FailNow()
		}
	}
}
