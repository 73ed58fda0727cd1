package ipcp

import (
	"math/rand/v2"
	"slices"
	"testing"

	"tollgate/api"
	"tollgate/neg"
)

// P1701 by any steps: beside a negotiation of the setup that the promise names, and what a server never acks.

type chance struct{ *rand.Rand }

func (r chance) pick(l []string) string { return l[r.IntN(len(l))] }

// value makes up a value, mostly an address.
func (r chance) value() string {
	if r.IntN(5) == 0 {
		return r.pick(wrongLong())
	}
	return r.pick(edges())
}

// options makes up options, mostly of the kinds that there are.
func (r chance) options() []api.Option {
	var out []api.Option
	for range r.IntN(4) {
		out = append(out, opt([]int{3, 3, 3, 129, 129, 131, 131, 1 + r.IntN(255)}[r.IntN(8)], r.value()))
	}
	return out
}

// part tells some of the options of a request, some of them with another value.
func (r chance) part(l []api.Option) []api.Option {
	var out []api.Option
	for _, o := range l {
		switch r.IntN(5) {
		case 0:
		case 1:
			out = append(out, opt(o.Type, r.value()))
		default:
			out = append(out, o)
		}
	}
	return out
}

// packet makes up a packet; last is the last request that was heard.
func (r chance) packet(last api.Packet) api.Packet {
	id := last.Id
	if r.IntN(8) == 0 {
		id = r.IntN(256)
	}
	switch r.IntN(12) {
	case 0, 1, 2, 3:
		return pk(api.ConfReq, r.IntN(256), r.options()...)
	case 4, 5:
		return pk(api.ConfAck, id, last.Options...)
	case 6, 7:
		return pk(api.ConfNak, id, r.options()...)
	case 8:
		return pk(api.ConfNak, id, r.part(last.Options)...)
	case 9, 10:
		return pk(api.ConfRej, id, r.part(last.Options)...)
	}
	return bare(r.IntN(12), id, r.pick([]string{"", "\x01", "\x09", "xyz"}))
}

// act lets the same happen to all of some negotiations, and tells what each of them sent.
func (r chance) act(last api.Packet, all ...*neg.Neg) [][]api.Packet {
	do := func(n *neg.Neg) []api.Packet { return n.Tick() }
	switch k := r.IntN(20); {
	case k < 15:
		p := r.packet(last)
		do = func(n *neg.Neg) []api.Packet { return n.Take(p) }
	case k < 18:
		event := []int{api.Open, api.Up, api.Open, api.Up, api.Down, api.Close}[r.IntN(6)]
		do = func(n *neg.Neg) []api.Packet { return n.Do(event) }
	}
	var out [][]api.Packet
	for _, n := range all {
		out = append(out, do(n))
	}
	return out
}

// heard tells the last request among packets, or else the one before.
func heard(l []api.Packet, before api.Packet) api.Packet {
	for _, p := range l {
		if p.Code == api.ConfReq {
			before = p
		}
	}
	return before
}

// beside lets any steps happen to a negotiation and to one that is made of a setup by hand; each step is told to look.
func beside(t *testing.T, r chance, n *neg.Neg, s neg.Setup, look func([]api.Packet)) {
	t.Helper()
	twin, err := neg.New(s)
	good(t, twin, err)
	last := api.Packet{}
	for range 120 {
		out := r.act(last, n, twin)
		says(t, "beside its twin", out[0], out[1]...)
		is(t, "beside its twin", n, twin.State())
		has(t, "beside its twin", n, twin.Mine(), twin.Theirs())
		last = heard(out[0], last)
		look(out[0])
		if t.Failed() {
			t.FailNow()
		}
	}
}

// numbers lays made up numbers into a setup.
func (r chance) numbers(s neg.Setup) neg.Setup {
	s.Configure, s.Terminate, s.Fails, s.Wait = 1+r.IntN(20), 1+r.IntN(20), r.IntN(4), 1+r.IntN(4)
	return s
}

func TestP1701ClientAnySteps(t *testing.T) {
	r := chance{rand.New(rand.NewPCG(17, 1))}
	ups := 0
	for range 1500 {
		dns := r.IntN(2) == 0
		s := r.numbers(clientByHand(dns))
		n, err := Client(s.Configure, s.Terminate, s.Fails, s.Wait, dns)
		beside(t, r, good(t, n, err), s, func([]api.Packet) {})
		u, _ := n.Ups()
		ups += u
	}
	if ups < 100 {
		t.Errorf("only %d came up", ups)
	}
}

// acksOnly holds that of what is given nothing else is acked.
func (g gifts) acksOnly(t *testing.T, l []api.Packet) {
	t.Helper()
	for _, p := range l {
		if p.Code == api.ConfAck {
			g.holds(t, p.Options)
		}
	}
}

// holds holds that options have no other addresses than those that are given, and each of them once.
func (g gifts) holds(t *testing.T, l []api.Option) {
	t.Helper()
	for i, o := range l {
		gift, ok := g.of(o.Type)
		if !ok || o.Value != gift || slices.Contains(l[:i], o) {
			t.Fatalf("a server of %q acked %v", g, l)
		}
	}
}

func TestP1701ServerAnySteps(t *testing.T) {
	r := chance{rand.New(rand.NewPCG(17, 2))}
	ups := 0
	for range 1500 {
		own, g := r.pick(edges()), gifts{r.pick(edges()), r.pick(edges()[:7]), r.pick(edges()[:7])}
		s := r.numbers(serverByHand(own, g))
		n, err := Server(addr(own), addr(g.peer), addr(g.dns1), addr(g.dns2), s.Configure, s.Terminate, s.Fails, s.Wait)
		beside(t, r, good(t, n, err), s, func(l []api.Packet) {
			g.acksOnly(t, l)
			g.holds(t, n.Theirs())
		})
		u, _ := n.Ups()
		ups += u
	}
	if ups < 100 {
		t.Errorf("only %d came up", ups)
	}
}

// Every short row of requests, with naks that run out and with such that do not: no other address is ever acked.
func TestP1701ServerEveryRowOfRequests(t *testing.T) {
	g := gifts{peer, first, nought}
	asks := [][]api.Option{nil, list(3, nought), list(3, peer), list(3, own), list(3, step(peer, 1)), list(3, step(peer, 255)), list(3, peer[:3]), list(3, peer+"\x00"), list(3, peer, 3, own), list(3, own, 3, peer), list(129, first, 3, own), list(129, peer, 3, first), list(131, nought, 3, own), list(9, "", 3, own)}
	for row := range len(asks) * len(asks) * len(asks) {
		for _, fails := range []int{0, 1, 2} {
			for _, agreed := range []bool{false, true} {
				n, err := Server(addr(own), addr(g.peer), addr(g.dns1), addr(g.dns2), 5, 2, fails, 3)
				up(t, good(t, n, err))
				if agreed {
					n.Take(pk(api.ConfAck, 1, opt(3, own)))
				}
				for id, rest := 0, row; id < 3; id, rest = id+1, rest/len(asks) {
					l := asks[rest%len(asks)]
					out := n.Take(pk(api.ConfReq, id, l...))
					code, _ := g.answer(l)
					acked := slices.ContainsFunc(out, func(p api.Packet) bool { return p.Code == api.ConfAck })
					if acked != (code == api.ConfAck) {
						t.Fatalf("%v, to %v", out, l)
					}
					g.acksOnly(t, out)
					g.holds(t, n.Theirs())
				}
			}
		}
	}
}

// What was handed in is neither changed nor kept, and of two negotiations each has its own.
func TestP1701NothingIsShared(t *testing.T) {
	for what, make := range makers() {
		n, err := make(5, 2, 5, 3)
		twin, too := make(5, 2, 5, 3)
		good(t, n, err).Do(api.Open)
		good(t, twin, too).Do(api.Open)
		p := n.Do(api.Up)
		l := p[0].Options
		for i := range l[:cap(l)] {
			l[:cap(l)][i] = opt(7, "spoilt")
		}
		asked := twin.Do(api.Up)[0].Options
		says(t, what, n.Take(pk(api.ConfNak, 1)), pk(api.ConfReq, 2, asked...))
		n.Take(pk(api.ConfNak, 2, list(3, "\x09\x09\x09\x09", 129, top, 131, top)...))
		says(t, what, twin.Take(pk(api.ConfNak, 1)), pk(api.ConfReq, 2, asked...))
	}
}
