package lcp

import (
	"math/rand/v2"
	"slices"
	"testing"

	"tollgate/api"
	"tollgate/byhand"
	"tollgate/tape"
)

// P1201 to P1205 at two links that hear each other, and at one that hears itself.

// pair is two links that hear each other.
type pair struct{ byhand.Pair[*Lcp] }

// between makes a pair, of which each opens.
func between(one, other *Lcp) *pair {
	p := &pair{byhand.Pair[*Lcp]{Ends: [2]*Lcp{one, other}}}
	p.Do(api.Open)
	p.Do(api.Up)
	return p
}

// settle delivers all that is on its way, and what that brings about.
func (p *pair) settle(t *testing.T) {
	t.Helper()
	if !p.Settle() {
		t.Fatalf("they never end: %v", p.Ways)
	}
}

// agreed holds that both are Opened, and that each has of the other what that has of itself.
func (p *pair) agreed(t *testing.T, what string) {
	t.Helper()
	one, other := p.Ends[0], p.Ends[1]
	is(t, what, one, api.Opened)
	is(t, what, other, api.Opened)
	if !p.Agree() {
		t.Fatalf("%s: mine is %v at the one, %v at the other; theirs %v and %v", what, one.Mine(), other.Mine(), one.Theirs(), other.Theirs())
	}
	peer, own := one.Auth()
	if a, b := other.Auth(); peer != b || own != a {
		t.Fatalf("%s: Auth() is %#x, %#x at the one, and %#x, %#x at the other", what, peer, own, a, b)
	}
}

// open brings two links up.
func open(t *testing.T, a, b Config) *pair {
	t.Helper()
	p := between(made(t, a, tape.New([]int{1, 2, 3, 4, 5, 6, 7, 8})), made(t, b, tape.New([]int{9, 10, 11, 12})))
	p.settle(t)
	return p
}

// None, the one, the other and both ask for authentication; with any units.
func TestP1205TwoLinks(t *testing.T) {
	for _, one := range []int{0, api.ProtoPap, api.ProtoChap} {
		for _, other := range []int{0, api.ProtoPap, api.ProtoChap} {
			for _, mru := range []int{64, 1000, 1492} {
				a := with(func(c *Config) { c.Auth, c.Mru, c.Magic = one, mru, 8 })
				b := with(func(c *Config) { c.Auth = other })
				p := open(t, a, b)
				p.agreed(t, "two links")
				tells(t, "the one", p.Ends[0], one, other, 1492)
				tells(t, "the other", p.Ends[1], other, one, mru)
				has(t, "the one", p.Ends[0], Options(a), Options(b))
				for _, l := range p.Ends {
					came(t, "both", l, 1, 0)
					looped(t, "both", l, 0)
				}
			}
		}
	}
}

// Two links that by chance have one Magic find others.
func TestP1202TwoLinksOfOneMagic(t *testing.T) {
	p := open(t, config(), config())
	p.agreed(t, "one Magic")
	a, b := sign(t, p.Ends[0]), sign(t, p.Ends[1])
	if a == b {
		t.Errorf("both have the Magic %q", a)
	}
	for i, l := range p.Ends {
		if mine := l.Mine(); !slices.Equal(mine, []api.Option{magic(sign(t, l))}) {
			t.Errorf("link %d: Mine() = %v", i, mine)
		}
		if l.Loops() < 1 || l.Loops() > 3 {
			t.Errorf("link %d: Loops() = %d", i, l.Loops())
		}
	}
}

// A link whose own packets come back to it hears itself, and ends.
func TestP1202ALinkThatHearsItself(t *testing.T) {
	for _, magicless := range []bool{false, true} {
		c := with(func(c *Config) { c.Configure, c.Fails = 20, 0 })
		if magicless {
			c.Magic = 0
		}
		l := made(t, c, tape.New([]int{1, 2, 3, 4, 5, 6, 7, 8, 9, 10, 11, 12}))
		l.Do(api.Open)
		way := l.Do(api.Up)
		for range 200 {
			if len(way) == 0 {
				way = l.Tick()
				continue
			}
			p := way[0]
			way = append(way[1:], l.Take(p)...)
		}
		if magicless { // it has nothing to know itself by
			looped(t, "without a Magic", l, 0)
			is(t, "without a Magic", l, api.Opened)
			continue
		}
		if l.Loops() < 4 {
			t.Errorf("Loops() = %d", l.Loops())
		}
		is(t, "a loop", l, api.Closed)
		came(t, "a loop", l, 0, 0)
	}
}

// Echoes keep links alive that hear each other, and end those that do not.
func TestP1204TwoLinks(t *testing.T) {
	p := open(t, echoing(3), with(func(c *Config) { c.Magic, c.Echo = 8, 5 }))
	for range 300 {
		p.Tick()
		p.settle(t)
	}
	p.agreed(t, "echoes")
	for i, most := range []int{4 * 3, 4 * 5} {
		for range most {
			is(t, "nobody answers", p.Ends[i], api.Opened)
			p.Ends[i].Tick() // and what it says is lost
		}
		is(t, "nobody answers", p.Ends[i], api.Closing)
	}
}

// link makes up a link that tries often, and is patient.
func (r chance) link(t *testing.T) *Lcp {
	c := r.config()
	c.Echo, c.Configure, c.Fails = 20*r.IntN(3), 20, 0
	return made(t, c, tape.New([]int{r.IntN(256), r.IntN(256), r.IntN(256), r.IntN(256)}))
}

// Behind losses, too, they come up, and have the same of each other.
func TestP1205BehindLosses(t *testing.T) {
	r := chance{rand.New(rand.NewPCG(12, 1))}
	up := 0
	for range 300 {
		p := between(r.link(t), r.link(t))
		for range 12 { // steps in which things get lost
			to := r.IntN(2)
			if r.IntN(2) == 0 {
				p.Lose(to)
			}
			p.Deliver(to)
			p.Send(to, p.Ends[to].Tick())
		}
		for range 100 {
			p.settle(t)
			p.Tick()
		}
		p.settle(t)
		if p.Ends[0].Loops() >= 4 || p.Ends[1].Loops() >= 4 {
			continue // of one Magic, and of many losses
		}
		p.agreed(t, "behind losses")
		up++
	}
	if up < 250 {
		t.Errorf("only %d came up", up)
	}
}
