package neg

import (
	"math/rand/v2"
	"testing"

	"tollgate/api"
	"tollgate/byhand"
)

// P1106: what follows from the others.

// pair is two ends that hear each other.
type pair struct{ byhand.Pair[*Neg] }

// between makes a pair, of which each opens.
func between(one, other *Neg) *pair {
	p := &pair{byhand.Pair[*Neg]{Ends: [2]*Neg{one, other}}}
	p.Do(api.Open)
	p.Do(api.Up)
	return p
}

// settle delivers all that is on its way, and what that brings about.
func (p *pair) settle(t *testing.T) {
	t.Helper()
	if !p.Settle() {
		t.Fatalf("they never end: %v", p.Ways)
	}
}

// opened holds that both are Opened.
func (p *pair) opened(t *testing.T) {
	t.Helper()
	if !p.AreOpened() {
		t.Fatalf("they are %s and %s", states[p.Ends[0].State()], states[p.Ends[1].State()])
	}
}

// agree holds that what is mine at the one is theirs at the other, if both are Opened and all that was sent came.
func (p *pair) agree(t *testing.T) {
	t.Helper()
	if p.IsQuiet() && p.AreOpened() && !p.Agree() {
		one, other := p.Ends[0], p.Ends[1]
		t.Fatalf("mine is %v at the one, %v at the other; theirs %v and %v", one.Mine(), other.Mine(), one.Theirs(), other.Theirs())
	}
}

func TestP1106TwoEnds(t *testing.T) {
	a := setup()
	a.Peer = append(a.Peer, api.Rule{Type: 5, Len: 2, Min: 0, Max: 100, Suggest: "\x00\x09"}, api.Rule{Type: 9, Len: 1, Min: 'a', Max: 'y', Suggest: "b"})
	p := between(made(t, a), made(t, a))
	p.settle(t)
	p.opened(t)
	p.agree(t)
	want := []api.Option{opt(1, "\x04\x00"), opt(5, "\x00\x09"), opt(9, "b")} // 7 was rejected
	for _, n := range p.Ends {
		has(t, "agreed", n, want, want)
		came(t, "agreed", n, 1, 0)
	}
}

// Any two ends, whose packets come in order, in each direction by itself, with ticks between.
func TestP1106AnyTwoEnds(t *testing.T) {
	r := chance{rand.New(rand.NewPCG(11, 7))}
	opened := 0
	for range 4000 {
		p := between(made(t, r.setup()), made(t, r.setup()))
		for range 150 {
			switch k := r.IntN(40); {
			case k < 36:
				p.Deliver(r.IntN(2))
			case k < 39:
				i := r.IntN(2)
				p.Send(i, p.Ends[i].Tick())
			case r.IntN(8) == 0: // one of them begins again
				i := r.IntN(2)
				p.Send(i, p.Ends[i].Take(bare(api.TermAck, 0, "")))
			}
			p.agree(t)
		}
		for range 400 {
			if !p.Deliver(r.IntN(2)) && p.IsQuiet() {
				break
			}
			p.agree(t)
		}
		if p.IsQuiet() && p.AreOpened() {
			opened++
		}
	}
	if opened < 1000 {
		t.Errorf("only %d were opened", opened)
	}
}

// Behind losses, too: what is lost is asked for again, as long as there are tries.
func TestP1106BehindLosses(t *testing.T) {
	r := chance{rand.New(rand.NewPCG(11, 8))}
	s := setup()
	s.Configure, s.Fails, s.Wait = 20, 0, 3 // with Fails naks lost what must be there would be rejected
	s.Peer = append(s.Peer, api.Rule{Type: 5, Len: 2, Min: 0, Max: 100, Suggest: "\x00\x09"}, api.Rule{Type: 9, Len: 1, Min: 'a', Max: 'y', Suggest: "b"})
	for range 300 {
		p := between(made(t, s), made(t, s))
		for range 20 { // steps in which things get lost
			to := r.IntN(2)
			if r.IntN(2) == 0 {
				p.Lose(to)
			}
			p.Deliver(to)
			p.Send(to, p.Ends[to].Tick())
		}
		for range 200 {
			p.settle(t)
			p.agree(t)
			p.Tick()
		}
		p.settle(t)
		p.opened(t)
		p.agree(t)
	}
}

// Packets open only what waits for just that: AckSent by the ack of the last request, AckRcvd by a good request.
func TestP1106NoPacketOpens(t *testing.T) {
	for _, h := range everyHearing() {
		for state, name := range states {
			n := in(t, setup(), state)
			n.Take(h.came)
			may := state == api.AckSent && h.event == api.Rca || state == api.AckRcvd && h.event == api.RcrPlus
			if state != api.Opened && (n.State() == api.Opened) != may {
				t.Errorf("%s: %s: State() = %d", name, h.what, n.State())
			}
		}
	}
}

// Where this side did not open, or ends, no row of packets does, whatever they are.
func TestP1106NoPacketsOpen(t *testing.T) {
	r := chance{rand.New(rand.NewPCG(11, 9))}
	for _, state := range []int{api.Initial, api.Starting, api.Closed, api.Closing, api.Stopping} {
		for range 50 {
			n := in(t, setup(), state)
			ups, _ := n.Ups()
			for range 100 {
				id := []int{1, 1, 0, r.IntN(256)}[r.IntN(4)]
				switch r.IntN(4) {
				case 0:
					n.Take(pk(api.ConfReq, id))
				case 1:
					n.Take(pk(api.ConfAck, id, ask()...))
				case 2:
					n.Take(pk(1+r.IntN(4), id, r.options()...))
				default:
					code := r.IntN(20)
					if state == api.Stopping && code == api.TermAck {
						continue // that makes it Stopped, which a request may begin again
					}
					if state == api.Stopping && code == api.CodeRej {
						continue
					}
					n.Take(bare(code, id, r.value()))
				}
			}
			if got, _ := n.Ups(); got != ups || n.State() == api.Opened {
				t.Fatalf("%s: State() = %d behind some packets", states[state], n.State())
			}
		}
	}
}
