package ipcp

import (
	"math/rand/v2"
	"testing"

	"tollgate/api"
	"tollgate/byhand"
	"tollgate/neg"
	"tollgate/opts"
)

// P1703: a client and a server that hear each other.

// wired hears packets through their bytes, with filling behind them, as it would from afar.
type wired struct {
	*neg.Neg
	t *testing.T
}

func (w wired) Take(p api.Packet) []api.Packet {
	w.t.Helper()
	b, err := opts.Put(p)
	if err != api.OK {
		w.t.Fatalf("Put(%v) = %d", p, err)
	}
	came, err := opts.Get(b + "filling")
	if err != api.OK || !alike(came, p) {
		w.t.Fatalf("Get(%q) = %v, %d, not %v", b, came, err, p)
	}
	return w.Neg.Take(came)
}

// couple is a client and a server, in this order, and what should be agreed.
type couple struct {
	byhand.Pair[wired]
	dns bool
	own string
	gifts
}

const ofClient, ofServer = 0, 1

// numbers are Configure, Terminate, Fails and Wait.
type numbers [4]int

// couples makes a client and a server of the same numbers, neither of which opened.
func couples(t *testing.T, dns bool, own string, g gifts, x numbers) *couple {
	t.Helper()
	c, err := Client(x[0], x[1], x[2], x[3], dns)
	good(t, c, err)
	s, err := Server(addr(own), addr(g.peer), addr(g.dns1), addr(g.dns2), x[0], x[1], x[2], x[3])
	good(t, s, err)
	return &couple{byhand.Pair[wired]{Ends: [2]wired{{c, t}, {s, t}}}, dns, own, g}
}

// event lets something happen to one of them.
func (c *couple) event(end, event int) { c.Send(end, c.Ends[end].Do(event)) }

// settle delivers all that is on its way, and what that brings about.
func (c *couple) settle(t *testing.T) {
	t.Helper()
	if !c.Settle() {
		t.Fatalf("they never end: %v", c.Ways)
	}
}

// wait lets ticks go by, each of them when all was heard, until both are Opened.
func (c *couple) wait(t *testing.T, ticks int) {
	t.Helper()
	c.settle(t)
	for range ticks {
		if c.AreOpened() {
			return
		}
		c.Tick()
		c.settle(t)
	}
}

// gets tells what the client should have as its own.
func (c *couple) gets() []api.Option {
	out := list(3, c.peer)
	if c.dns && c.dns1 != nought {
		out = append(out, opt(129, c.dns1))
	}
	if c.dns && c.dns2 != nought {
		out = append(out, opt(131, c.dns2))
	}
	return out
}

// tells holds the address of a kind among options against what it should be; of one that is not wanted there is none.
func tells(t *testing.T, l []api.Option, kind int, want string, wanted bool) {
	t.Helper()
	a, ok := Address(l, kind)
	if !wanted {
		want = nought
	}
	if a != addr(want) || ok != wanted {
		t.Fatalf("Address(%v, %d) = %v, %t, not %q, %t", l, kind, a, ok, want, wanted)
	}
}

// agreed holds that both are Opened, that each has what the other one gave or granted, and that nothing more is said.
func (c *couple) agreed(t *testing.T) {
	t.Helper()
	client, server := c.Ends[ofClient], c.Ends[ofServer]
	is(t, "the client", client.Neg, api.Opened)
	is(t, "the server", server.Neg, api.Opened)
	has(t, "the client", client.Neg, c.gets(), list(3, c.own))
	has(t, "the server", server.Neg, list(3, c.own), c.gets())
	for _, l := range [][]api.Option{client.Mine(), server.Theirs()} {
		tells(t, l, 3, c.peer, true)
		tells(t, l, 129, c.dns1, c.dns && c.dns1 != nought)
		tells(t, l, 131, c.dns2, c.dns && c.dns2 != nought)
	}
	for range 300 {
		c.Tick()
	}
	if !c.IsQuiet() {
		t.Fatalf("they go on: %v", c.Ways)
	}
}

// came holds how often both came up, and down.
func (c *couple) came(t *testing.T, ups, downs int) {
	t.Helper()
	for i, n := range c.Ends {
		if u, d := n.Ups(); u != ups || d != downs {
			t.Errorf("end %d: Ups() = %d, %d, not %d, %d", i, u, d, ups, downs)
		}
	}
}

// everyGift tells each of some addresses of a subscriber with and without each name server.
func everyGift() []gifts {
	var out []gifts
	for _, p := range edges() {
		for _, a := range []string{nought, one, top, first, p} {
			for _, b := range []string{nought, one, top, second, a} {
				out = append(out, gifts{p, a, b})
			}
		}
	}
	return out
}

func TestP1703Meet(t *testing.T) {
	for _, dns := range []bool{false, true} {
		for _, g := range everyGift() {
			for _, a := range []string{own, nought, one, top, peer, g.peer} {
				c := couples(t, dns, a, g, numbers{5, 2, 5, 3})
				c.Do(api.Open)
				c.Do(api.Up)
				c.settle(t)
				c.agreed(t)
				c.came(t, 1, 0)
			}
		}
	}
}

// What is said, packet by packet: where both name servers are given, where one is, where they are not asked for.
func TestP1703MeetWrittenOut(t *testing.T) {
	for _, x := range []struct {
		dns        bool
		dns1, dns2 string
		says       [][2]api.Packet // the client's requests, and what the server answers
	}{
		{true, first, second, [][2]api.Packet{
			{pk(api.ConfReq, 1, list(3, nought, 129, nought, 131, nought)...), pk(api.ConfNak, 1, list(3, peer, 129, first, 131, second)...)},
			{pk(api.ConfReq, 2, list(3, peer, 129, first, 131, second)...), pk(api.ConfAck, 2, list(3, peer, 129, first, 131, second)...)},
		}},
		{true, nought, second, [][2]api.Packet{
			{pk(api.ConfReq, 1, list(3, nought, 129, nought, 131, nought)...), pk(api.ConfRej, 1, opt(129, nought))},
			{pk(api.ConfReq, 2, list(3, nought, 131, nought)...), pk(api.ConfNak, 2, list(3, peer, 131, second)...)},
			{pk(api.ConfReq, 3, list(3, peer, 131, second)...), pk(api.ConfAck, 3, list(3, peer, 131, second)...)},
		}},
		{true, nought, nought, [][2]api.Packet{
			{pk(api.ConfReq, 1, list(3, nought, 129, nought, 131, nought)...), pk(api.ConfRej, 1, list(129, nought, 131, nought)...)},
			{pk(api.ConfReq, 2, opt(3, nought)), pk(api.ConfNak, 2, opt(3, peer))},
			{pk(api.ConfReq, 3, opt(3, peer)), pk(api.ConfAck, 3, opt(3, peer))},
		}},
		{false, first, second, [][2]api.Packet{
			{pk(api.ConfReq, 1, opt(3, nought)), pk(api.ConfNak, 1, opt(3, peer))},
			{pk(api.ConfReq, 2, opt(3, peer)), pk(api.ConfAck, 2, opt(3, peer))},
		}},
	} {
		n, s := client(t, x.dns), up(t, server(t, own, peer, x.dns1, x.dns2))
		n.Do(api.Open)
		asks := n.Do(api.Up)
		says(t, "the client, to the server's", n.Take(pk(api.ConfReq, 1, opt(3, own))), pk(api.ConfAck, 1, opt(3, own)))
		says(t, "the server, to that", s.Take(pk(api.ConfAck, 1, opt(3, own))))
		for _, turn := range x.says {
			says(t, "the client", asks, turn[0])
			says(t, "the server", s.Take(turn[0]), turn[1])
			asks = n.Take(turn[1])
		}
		says(t, "the client, at last", asks)
		is(t, "the client", n, api.Opened)
		is(t, "the server", s, api.Opened)
	}
}

// The numbers at their edges do not stand in the way, where nothing is lost.
func TestP1703MeetOfAnyNumbers(t *testing.T) {
	for _, dns := range []bool{false, true} {
		for _, g := range []gifts{{peer, nought, nought}, {peer, first, nought}, {peer, nought, second}, {peer, first, second}} {
			for _, configure := range []int{1, 2, 20} {
				for _, fails := range []int{0, 1, 2, 20} {
					for _, wait := range []int{1, 2, 100} {
						c := couples(t, dns, own, g, numbers{configure, configure, fails, wait})
						c.Do(api.Open)
						c.Do(api.Up)
						c.settle(t)
						c.agreed(t)
						c.came(t, 1, 0)
					}
				}
			}
		}
	}
}

// anyGift makes up what is given.
func (r chance) anyGift() gifts {
	return gifts{r.pick(edges()), r.pick(edges()[:7]), r.pick(edges()[:7])}
}

// Whichever of them begins, and in whatever order the one way's packets and the other's come.
func TestP1703MeetInAnyOrder(t *testing.T) {
	r := chance{rand.New(rand.NewPCG(17, 3))}
	for range 4000 {
		c := couples(t, r.IntN(2) == 0, r.pick(edges()), r.anyGift(), numbers{1 + r.IntN(20), 1 + r.IntN(20), r.IntN(21), 1 + r.IntN(100)})
		begin := r.IntN(2)
		for _, event := range []int{api.Open, api.Up} {
			c.event(begin, event)
			c.event(1-begin, event)
		}
		for range 200 {
			c.Deliver(r.IntN(2))
		}
		c.settle(t)
		c.agreed(t)
		c.came(t, 1, 0)
	}
}

// One of them is there before the other: what it said to nobody it says again as ticks go by.
func TestP1703MeetOneLater(t *testing.T) {
	for _, dns := range []bool{false, true} {
		for late := range 2 {
			for _, before := range [][]int{nil, {api.Open}, {api.Up}, {api.Up, api.Open, api.Close}} {
				for _, ticks := range []int{0, 1, 2, 3, 4, 9} {
					c := couples(t, dns, own, gifts{peer, first, nought}, numbers{20, 2, 0, 3})
					for _, event := range before {
						c.event(late, event)
					}
					c.settle(t)
					c.event(1-late, api.Open)
					c.event(1-late, api.Up)
					for range ticks {
						c.settle(t)
						c.Tick()
					}
					c.settle(t)
					c.event(late, api.Open)
					c.event(late, api.Up)
					c.wait(t, 60)
					c.agreed(t)
				}
			}
		}
	}
}

// One that goes, and comes again, has again what it had, though it asks for it at once now.
func TestP1703MeetAgain(t *testing.T) {
	for _, dns := range []bool{false, true} {
		for end := range 2 {
			for _, row := range [][]int{{api.Down, api.Up}, {api.Close, api.Open}, {api.Close, api.Down, api.Open, api.Up}} {
				c := couples(t, dns, own, gifts{peer, nought, second}, numbers{5, 2, 5, 3})
				c.Do(api.Open)
				c.Do(api.Up)
				c.settle(t)
				for range 20 {
					for _, event := range row {
						c.event(end, event)
						c.settle(t)
					}
					c.wait(t, 60)
					c.agreed(t)
				}
			}
		}
	}
}

// With ticks between packets, as often as may be asked anew: some come late, but none is lost.
func TestP1703MeetWithTicksBetween(t *testing.T) {
	r := chance{rand.New(rand.NewPCG(17, 4))}
	for range 1000 {
		c := couples(t, r.IntN(2) == 0, r.pick(edges()), r.anyGift(), numbers{20, 2, 0, 10})
		c.Do(api.Open)
		c.Do(api.Up)
		for range 60 {
			if r.IntN(4) > 0 {
				c.Deliver(r.IntN(2))
			} else {
				c.Tick()
			}
		}
		c.wait(t, 200)
		c.agreed(t)
	}
}

// Behind losses, too, once nothing is lost any more.
func TestP1703MeetBehindLosses(t *testing.T) {
	r := chance{rand.New(rand.NewPCG(17, 5))}
	for range 1000 {
		c := couples(t, r.IntN(2) == 0, r.pick(edges()), r.anyGift(), numbers{20, 2, 0, 3})
		c.Do(api.Open)
		c.Do(api.Up)
		for range 20 {
			to := r.IntN(2)
			if r.IntN(2) == 0 {
				c.Lose(to)
			}
			c.Deliver(to)
			c.Tick()
		}
		c.wait(t, 200)
		c.agreed(t)
	}
}

// Neither of them names an address that was not given out by the server, or asked for by noughts.
func TestP1703NothingElseIsSaid(t *testing.T) {
	for _, g := range everyGift() {
		c := couples(t, true, own, g, numbers{5, 2, 5, 3})
		c.Do(api.Open)
		c.Do(api.Up)
		for !c.IsQuiet() {
			for to := range 2 {
				for _, p := range c.Ways[to] {
					c.knows(t, p)
				}
				c.Deliver(to)
			}
		}
		c.agreed(t)
	}
}

// knows holds that each value in a packet is one that one of them was made with, or noughts.
func (c *couple) knows(t *testing.T, p api.Packet) {
	t.Helper()
	for _, o := range p.Options {
		gift, _ := c.of(o.Type)
		if o.Value != nought && o.Value != gift && (o.Type != 3 || o.Value != c.own) {
			t.Fatalf("%v: where does %v come from?", p, o)
		}
	}
}
