package tunnel

import (
	"fmt"
	"math/rand/v2"
	"slices"
	"testing"

	"tollgate/api"
	"tollgate/byhand"
	"tollgate/tape"
)

// P2107: two ends that hear each other, over ways that lose, double and turn round.

// side is one of two ends, what is on its way to it, and the calls' messages that it was given and told.
type side struct {
	*Tunnel
	way         []string
	given, told []string
	was         []int // the states that were seen
}

// sides makes two ends whose draws differ.
func sides(t *testing.T, r *rand.Rand, one, other Config) (*side, *side) {
	t.Helper()
	other.Name, other.Id = "far", 9
	var l []*side
	for _, c := range []Config{one, other} {
		var draws []int
		for range 100 {
			draws = append(draws, r.IntN(256))
		}
		l = append(l, &side{Tunnel: made(t, c, draws...)})
	}
	return l[0], l[1]
}

// speaks lays what it sends on the way to the other.
func (s *side) speaks(to *side) int {
	l := s.Out()
	to.way = append(to.way, l...)
	return len(l)
}

// hears takes one of those on its way; that is doubled, if it stays there.
func (s *side) hears(at int, stays bool) {
	b := s.way[at]
	if !stays {
		s.way = slices.Delete(s.way, at, at+1)
	}
	for _, m := range s.Take(b) {
		s.told = append(s.told, fmt.Sprint(m.Session, m.Avps))
	}
	s.was = append(s.was, s.State())
}

func (s *side) hearsAll() {
	for len(s.way) > 0 {
		s.hears(0, false)
	}
}

// gets lets a call's message wait, if there is room.
func (s *side) gets() {
	n := len(s.given)
	l := avps(10+n%7, api.Avp{Type: 99, Value: fmt.Sprint("message ", n)})
	if s.Send(n%65536, l) == api.OK {
		s.given = append(s.given, fmt.Sprint(n%65536, l))
	}
}

// meet lets two hear all that is said, with nothing lost; it tells how many messages that were.
func meet(a, b *side) int {
	n := 0
	for range 1000 {
		more := a.speaks(b) + b.speaks(a)
		if more == 0 {
			return n
		}
		n += more
		a.hearsAll()
		b.hearsAll()
	}
	return -1
}

func states(a, b *side) [2]int { return [2]int{a.State(), b.State()} }

// Where one opens, it is three messages, and an ack of the last one.
func TestP2107ThreeMessages(t *testing.T) {
	r := rand.New(rand.NewPCG(21, 1))
	for _, secret := range []string{"", "s", "\x00", "a longer secret of more than one word"} {
		for _, window := range []int{1, 4, 64} {
			c := with(func(c *Config) { c.Secret, c.Window = secret, window })
			a, b := sides(t, r, c, c)
			a.Open()
			for i, want := range [][2]int{{WaitReply, WaitConn}, {Live, WaitConn}, {Live, Live}} {
				from, to := a, b
				if i%2 == 1 {
					from, to = b, a
				}
				if n := from.speaks(to); n != 1 {
					t.Fatalf("the message %d is %d", i, n)
				}
				to.hears(0, false)
				if got := states(a, b); got != want {
					t.Errorf("behind the message %d: %v, not %v", i, got, want)
				}
			}
			outs(t, "the opened one", a.Tunnel)
			outs(t, "the asked one", b.Tunnel, byhand.Ctl(5, 0, 1, 2, ""))
			is(t, "the opened one", a.Tunnel, look{Live, 5, 9, "far", 10})
			is(t, "the asked one", b.Tunnel, look{Live, 9, 5, "near", 10})
		}
	}
}

// Whoever opens, and if both do: whoever speaks first.
func TestP2107WhoeverOpens(t *testing.T) {
	r := rand.New(rand.NewPCG(21, 2))
	for n := range 400 {
		c := config()
		if n%2 == 0 {
			c = bare()
		}
		a, b := sides(t, r, c, c)
		first, second := a, b
		if n%4 < 2 {
			first, second = b, a
		}
		first.Open()
		if n%8 < 6 {
			second.Open()
		}
		if said := meet(first, second); said < 4 || said > 8 {
			t.Errorf("%d: %d messages", n, said)
		}
		is(t, "the one", a.Tunnel, look{Live, 5, 9, "far", 10})
		is(t, "the other", b.Tunnel, look{Live, 9, 5, "near", 10})
	}
}

// Where the ties are the same, both are Dead, and neither says why.
func TestP2107TheSameTie(t *testing.T) {
	for _, c := range []Config{config(), bare()} {
		a, b := &side{Tunnel: made(t, c, count(1, 60)...)}, &side{Tunnel: made(t, c, count(1, 60)...)}
		a.Open()
		b.Open()
		if n := meet(a, b); n != 2 || states(a, b) != [2]int{Dead, Dead} {
			t.Errorf("%d messages, %v", n, states(a, b))
		}
	}
}

// unlike tells pairs of secrets that differ.
func unlike() [][2]string {
	return [][2]string{{"s", "t"}, {"s", "ss"}, {"s", ""}, {"", "s"}, {"s", "S"}, {"s", "s\x00"}, {"\x00", ""}, {"\x00", "\x00\x00"}}
}

// Whose secrets differ is Dead soon, be it that one has none.
func TestP2107UnlikeSecrets(t *testing.T) {
	r := rand.New(rand.NewPCG(21, 3))
	for _, u := range unlike() {
		for open := 1; open < 4; open++ {
			a, b := sides(t, r, with(func(c *Config) { c.Secret = u[0] }), with(func(c *Config) { c.Secret = u[1] }))
			if open&1 != 0 {
				a.Open()
			}
			if open&2 != 0 {
				b.Open()
			}
			meet(a, b)
			if got := states(a, b); got != [2]int{Dead, Dead} {
				t.Errorf("%q and %q, open %d: %v", u[0], u[1], open, got)
			}
			if slices.Contains(append(a.was, b.was...), Live) {
				t.Errorf("%q and %q, open %d: one was Live", u[0], u[1], open)
			}
		}
	}
}

// bad is how often, of 100 times, a message is lost, doubled, or overtaken.
type bad struct{ lose, double, turn int }

// moves lets about half of what is on its way arrive, or not.
func (s *side) moves(r *rand.Rand, b bad) {
	for n := len(s.way) - r.IntN(len(s.way)+1); n > 0 && len(s.way) > 0; n-- {
		at := 0
		if r.IntN(100) < b.turn {
			at = r.IntN(len(s.way))
		}
		if r.IntN(100) < b.lose {
			s.way = slices.Delete(s.way, at, at+1)
			continue
		}
		s.hears(at, r.IntN(100) < b.double)
	}
}

// talk lets two go on for so many ticks; where they are Live they give each other calls' messages.
func talk(r *rand.Rand, a, b *side, way bad, n int) {
	for range n {
		if r.IntN(2) == 0 {
			a.gets()
		}
		if r.IntN(4) == 0 {
			b.gets()
		}
		for range 3 {
			a.speaks(b)
			b.speaks(a)
			a.moves(r, way)
			b.moves(r, way)
		}
		a.Tick()
		b.Tick()
	}
}

// first holds that what was told is a first part of what was given.
func first(t *testing.T, what string, told, given []string) {
	t.Helper()
	if len(told) > len(given) || !slices.Equal(told, given[:len(told)]) {
		t.Errorf("%s: %v is told of %v", what, told, given)
	}
}

// Over bad ways they come to Live as well, and calls' messages come over once, in order.
func TestP2107OverBadWays(t *testing.T) {
	r := rand.New(rand.NewPCG(21, 4))
	for _, way := range []bad{{}, {lose: 20}, {double: 40}, {turn: 60}, {20, 30, 50}} {
		for n := range 60 {
			c := with(func(c *Config) { c.Retry, c.Wait, c.Hello = 10, 1, 40 })
			if n%2 == 0 {
				c.Secret = ""
			}
			a, b := sides(t, r, c, c)
			a.Open()
			if n%3 == 0 {
				b.Open()
			}
			talk(r, a, b, way, 120)
			first(t, "a", a.told, b.given)
			first(t, "b", b.told, a.given)
			for range 40 { // the last ones, with nothing lost
				meet(a, b)
				a.Tick()
				b.Tick()
			}
			if got := states(a, b); got != [2]int{Live, Live} {
				t.Errorf("%+v: %v", way, got)
			}
			if !slices.Equal(a.told, b.given) || !slices.Equal(b.told, a.given) || len(a.told) < 10 {
				t.Errorf("%+v: %d of %d, %d of %d are told", way, len(a.told), len(b.given), len(b.told), len(a.given))
			}
		}
	}
}

// Over bad ways, too, who differs in secrets never comes to Live at both ends; with two that are not empty at neither.
func TestP2107UnlikeSecretsOverBadWays(t *testing.T) {
	r := rand.New(rand.NewPCG(21, 5))
	for n := range 400 {
		u := unlike()[n%8]
		a, b := sides(t, r, with(func(c *Config) { c.Secret = u[0] }), with(func(c *Config) { c.Secret = u[1] }))
		a.Open()
		if n%3 == 0 {
			b.Open()
		}
		talk(r, a, b, bad{r.IntN(40), r.IntN(50), r.IntN(80)}, 100)
		if slices.Contains(append(a.was, b.was...), Live) || len(a.told)+len(b.told) > 0 {
			t.Errorf("%q and %q: one was Live", u[0], u[1])
		}
		if got := states(a, b); got[0] != Dead || got[1] == Live {
			t.Errorf("%q and %q: %v", u[0], u[1], got)
		}
	}
}

// What stops at one end stops at the other: by its Stopccn, or, where that is lost, as nothing is acked any more.
func TestP2107Stops(t *testing.T) {
	r := rand.New(rand.NewPCG(21, 6))
	for _, lost := range []bool{false, true} {
		for n := range 2 {
			a, b := sides(t, r, config(), config())
			a.Open()
			meet(a, b)
			ends := []*side{a, b}
			one, other := ends[n], ends[1-n]
			one.Close()
			one.speaks(other)
			if lost {
				other.way = nil
			}
			other.hearsAll()
			if (other.State() == Dead) == lost {
				t.Errorf("lost %v: the state is %d", lost, other.State())
			}
			ticks(other.Tunnel, 8)
			for i := 0; other.State() != Dead; i++ {
				other.Out()
				other.Tick()
				if i > 100 {
					t.Fatal("it goes on")
				}
			}
		}
	}
}

// What an end said can't be turned back on it.
func TestP2107Mirror(t *testing.T) {
	for _, c := range []Config{config(), bare()} {
		e, _ := New(c, tape.New(count(1, 60)))
		e.Open()
		for range 30 {
			for _, b := range e.Out() {
				e.Take(b)
			}
			if e.State() == Live {
				t.Fatal("it is Live with itself")
			}
			e.Tick()
		}
		if e.State() != Dead {
			t.Errorf("the state is %d", e.State())
		}
	}
}
