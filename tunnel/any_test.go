package tunnel

import (
	"math/rand/v2"
	"slices"
	"testing"

	"tollgate/api"
	"tollgate/byhand"
	"tollgate/ctl"
	"tollgate/msg"
	"tollgate/tape"
)

// Any steps of an end beside a plain one, which knows what a message says without reading its bytes.

// words is what a message says.
type words struct {
	id, session, ns, nr int
	kind                int
	isWhole             bool
	peer, window        int // no window: -1
	name                string
	ties, dares         []string // none, or one
	knows               int
}

// What it answers to the own challenge.
const (
	nothing = 0
	right   = 1
	wrong   = 2
)

// plain is an end with nothing but its channel to lean on.
type plain struct {
	Config
	drawn      int // so many numbers, from 1 on
	way        *ctl.Ctl
	state      int
	age, quiet int
	hasLast    bool
	peer       int
	name       string
	tie, mine  string
}

func (p *plain) channel() {
	p.way, _ = ctl.New(p.Window, p.Queue, p.Retry, p.Wait, 0)
}

func (p *plain) draw(n int) string {
	p.drawn += n
	return run(p.drawn-n+1, n)
}

func (p *plain) to(state int) { p.state, p.age, p.quiet = state, 0, 0 }

func (p *plain) say(values string) { p.way.Send("\x00\x00" + values) }

func (p *plain) stop(code int) {
	p.say(stop(p.Id, code))
	p.to(Dead)
	p.hasLast = true
}

// dare tells what the peer is to answer, if there is a secret.
func (p *plain) dare() string {
	if p.Secret == "" {
		return ""
	}
	p.mine = p.draw(16)
	return asks(p.mine)
}

func (p *plain) open() api.Errno {
	if p.state != Idle {
		return api.ErrState
	}
	p.tie = p.draw(8)
	p.say(kind(1) + about(p.Name, p.Id, p.Window) + tied(p.tie) + p.dare())
	p.to(WaitReply)
	return api.OK
}

func (p *plain) close() {
	if p.state == Idle {
		p.to(Dead)
	} else if p.state != Dead {
		p.stop(1)
	}
}

func (p *plain) send(session int, values string) api.Errno {
	if p.state != Live {
		return api.ErrState
	}
	if session < 0 || session > 65535 {
		return api.ErrArg
	}
	return p.way.Send(byhand.Word(session) + values)
}

func (p *plain) tick() {
	p.way.Tick()
	p.age++
	p.quiet++
	if p.way.Dead() {
		p.to(Dead)
	}
	if (p.state == WaitReply || p.state == WaitConn) && p.age == 3*p.Hello {
		p.to(Dead)
	}
	if p.state == Live && p.quiet == p.Hello {
		p.quiet = 0
		p.say(kind(6))
	}
}

func (p *plain) out() []string {
	if p.state == Dead && !p.hasLast {
		return nil
	}
	p.hasLast = false
	var l []string
	for _, i := range p.way.Out() {
		session, values := 0, ""
		if i.Body != "" {
			session, values = int(i.Body[0])*256+int(i.Body[1]), i.Body[2:]
		}
		l = append(l, byhand.Ctl(p.peer, session, i.Ns, i.Nr, values))
	}
	return l
}

// take takes what says w in these values; it tells how many calls' messages are told.
func (p *plain) take(w words, values string) int {
	early := p.state == Idle || p.state == WaitReply
	if p.state == Dead || w.id != p.Id && (w.id != 0 || w.kind != 1 || !early) {
		return 0
	}
	if p.state == WaitReply && w.kind == 1 {
		if w.ns != 0 || w.ties == nil || len(w.ties[0]) != 8 || w.ties[0] > p.tie {
			return 0
		}
		if w.ties[0] == p.tie {
			p.to(Dead)
			return 0
		}
		p.to(Idle)
		p.channel()
	}
	p.quiet = 0
	if values != "" {
		values = byhand.Word(w.session) + values
	}
	if len(p.way.Take(ctl.Item{Ns: w.ns, Nr: w.nr, Body: values})) == 0 {
		return 0
	}
	if w.kind >= 7 {
		if p.state == Live {
			return 1
		}
		return 0
	}
	p.handle(w)
	return 0
}

func (p *plain) handle(w words) {
	isKnown := map[int]bool{Idle*10 + 1: true, WaitReply*10 + 2: true, WaitConn*10 + 3: true}[p.state*10+w.kind]
	switch {
	case !w.isWhole:
		p.stop(2)
	case w.kind == 4:
		p.to(Dead)
		p.hasLast = true
	case !isKnown:
	case w.kind == 3:
		if p.Secret != "" && w.knows != right {
			p.stop(4)
			return
		}
		p.to(Live)
	default:
		p.meets(w)
	}
}

// meets is what Sccrq and Sccrp have in common.
func (p *plain) meets(w words) {
	p.peer, p.name = w.peer, w.name
	if w.window > 0 && w.window < 65 {
		p.way.Window(w.window)
	}
	fits := (len(w.dares) > 0) == (p.Secret != "")
	if w.kind == 2 {
		fits = fits && w.knows == map[bool]int{true: right, false: nothing}[p.Secret != ""]
	}
	switch {
	case w.peer == 0:
		p.stop(2)
	case !fits:
		p.stop(4)
	default:
		answer := ""
		if p.Secret != "" {
			answer = answers(byte(w.kind+1), p.Secret, w.dares[0])
		}
		if w.kind == 1 {
			p.say(kind(2) + about(p.Name, p.Id, p.Window) + answer + p.dare())
			p.to(WaitConn)
		} else {
			p.say(kind(3) + answer)
			p.to(Live)
		}
	}
}

func (p *plain) look() look {
	room := p.Queue - p.way.Waiting()
	if p.state == Dead {
		room = 0
	}
	return look{p.state, p.Id, p.peer, p.name, room}
}

// often tells the first of two more often than not.
func often[T any](r *rand.Rand, n int, usual, other T) T {
	if r.IntN(n) == 0 {
		return other
	}
	return usual
}

// fit tells words that often are those which bring it on.
func fit(r *rand.Rand, p *plain) words {
	next, come := p.way.Next()
	next -= r.IntN(p.way.Flying() + 1) // each of them may be acked
	w := words{id: p.Id, ns: come, nr: next & 65535, isWhole: r.IntN(25) > 0, peer: 9, name: "far", window: r.IntN(70) - 1}
	w.kind = often(r, 3, []int{1, 1 + r.IntN(2), 3, 10}[p.state%4], 1+r.IntN(17))
	if w.kind == 4 && r.IntN(4) > 0 {
		w.kind = 6
	}
	if w.kind == 1 {
		w.id = often(r, 5, 0, p.Id)
		w.ns = often(r, 8, 0, w.ns)
	}
	w.isWhole = w.isWhole && w.kind != 5 // there is none of that kind
	w.session = r.IntN(3) * 20000
	w.id = often(r, 25, w.id, r.IntN(10))
	w.ns = often(r, 12, w.ns, r.IntN(5))
	w.peer = often(r, 25, 9, 0)
	if (p.Secret != "") != (r.IntN(25) == 0) {
		w.dares = []string{run(r.IntN(200), r.IntN(20))}
	}
	if r.IntN(5) > 0 {
		w.ties = []string{often(r, 12, run(r.IntN(3), 8), run(0, 7+r.IntN(3)))}
		w.isWhole = w.isWhole && (len(w.ties[0]) == 8 || w.kind > 2)
	}
	if p.Secret != "" {
		w.knows = often(r, 15, right, r.IntN(3))
	} else {
		w.knows = often(r, 25, nothing, wrong)
	}
	return w
}

// values lays words into bytes.
func (w words) values(p *plain) string {
	b := kind(w.kind)
	if w.kind == 4 {
		b += must(9, byhand.Word(w.peer)) + must(1, "\x00\x01")
	}
	if w.kind < 3 {
		b += must(2, "\x01\x00") + must(3, "1234") + must(7, w.name) + must(9, byhand.Word(w.peer))
		if w.window >= 0 {
			b += must(10, byhand.Word(w.window))
		}
		for _, tie := range w.ties {
			b += tied(tie)
		}
		for _, c := range w.dares {
			b += asks(c)
		}
	}
	switch w.knows {
	case right:
		b += answers(byte(w.kind), p.Secret, p.mine)
	case wrong:
		b += answers(byte(w.kind), p.Secret+"?", p.mine)
	}
	if !w.isWhole {
		b += must(99, "")
	}
	return b
}

// random does some step to both, and holds what they answer against each other.
func random(t *testing.T, r *rand.Rand, e *Tunnel, p *plain) {
	t.Helper()
	switch step := r.IntN(40); {
	case step == 0:
		if got, want := e.Open(), p.open(); got != want {
			t.Fatalf("Open() = %d, not %d", got, want)
		}
	case step == 1 && r.IntN(8) == 0:
		e.Close()
		p.close()
	case step < 8:
		session := r.IntN(65540) - 2
		if got, want := e.Send(session, avps(10)), p.send(session, kind(10)); got != want {
			t.Fatalf("Send(%d) = %d, not %d", session, got, want)
		}
	case step < 24:
		w := fit(r, p)
		values := w.values(p)
		if r.IntN(4) == 0 { // an ack alone
			w.kind, values = 0, ""
		}
		b := byhand.Ctl(w.id, w.session, w.ns, w.nr, values)
		got := e.Take(b)
		if want := p.take(w, values); len(got) != want {
			t.Fatalf("Take(%+v) = %v, not %d", w, got, want)
		}
	case step < 34:
		if got, want := e.Out(), p.out(); !slices.Equal(got, want) {
			t.Fatalf("Out() = %x, not %x", got, want)
		}
	default:
		e.Tick()
		p.tick()
	}
}

func TestAnySteps(t *testing.T) {
	r := rand.New(rand.NewPCG(21, 10))
	came := map[[2]int]int{}
	for range 4000 {
		c := Config{Name: "near", Secret: often(r, 2, "s", ""), Id: 5, Window: 1 + r.IntN(8), Queue: 1 + r.IntN(40), Retry: r.IntN(5), Wait: 1 + r.IntN(9), Hello: 1 + r.IntN(30)}
		e, p := made(t, c, count(1, 255)...), &plain{Config: c}
		p.channel()
		if r.IntN(2) == 0 {
			e.Open()
			p.open()
		}
		for n := range 120 {
			was := p.state
			random(t, r, e, p)
			if got, want := seen(e), p.look(); got != want {
				t.Fatalf("%+v, behind %d steps: %+v, not %+v", c, n+1, got, want)
			}
			if was != p.state {
				came[[2]int{was, p.state}]++
			}
		}
	}
	for _, way := range [][2]int{{Idle, WaitReply}, {Idle, WaitConn}, {Idle, Dead}, {WaitReply, WaitConn}, {WaitReply, Live}, {WaitReply, Dead}, {WaitConn, Live}, {WaitConn, Dead}, {Live, Dead}} {
		if came[way] < 100 {
			t.Errorf("%v came %d times", way, came[way])
		}
	}
	if len(came) != 9 {
		t.Errorf("other ways, too: %v", came)
	}
}

// spoil tells bytes with something changed, cut off or put in.
func spoil(r *rand.Rand, b string) string {
	l := []byte(b)
	for n := 1 + r.IntN(3); n > 0 && len(l) > 0; n-- {
		at := r.IntN(len(l))
		switch r.IntN(6) {
		case 0:
			l = l[:at]
		case 1:
			l = slices.Insert(l, at, byte(r.IntN(256)))
		case 2:
			l = slices.Delete(l, at, at+1)
		default:
			l[at] ^= 1 << r.IntN(8)
		}
	}
	return string(l)
}

// W6: whatever comes, it ends in some state, and what it says is a message that can be read.
func TestAnyBytes(t *testing.T) {
	r := rand.New(rand.NewPCG(21, 11))
	for range 4000 {
		secret := often(r, 2, "s", "")
		a, _ := New(with(func(c *Config) { c.Secret = secret }), tape.New(count(r.IntN(9), 200)))
		b, _ := New(with(func(c *Config) { c.Secret, c.Id, c.Name = secret, 9, "far" }), tape.New(count(r.IntN(9), 200)))
		a.Open()
		if r.IntN(3) == 0 {
			b.Open()
		}
		ends := []*Tunnel{a, b}
		for n := range 40 {
			from, to := ends[n%2], ends[1-n%2]
			from.Send(r.IntN(100), avps(10))
			for _, m := range from.Out() {
				if got, err := msg.Get(m, secret); err != api.OK || got.Tunnel != from.peer {
					t.Fatalf("it says %x", m)
				}
				to.Take(often(r, 6, m, spoil(r, m)))
			}
			from.Tick()
			for _, l := range []look{seen(a), seen(b)} {
				if l.state < Idle || l.state > Dead || l.room < 0 || l.room > 10 || l.peer < 0 || l.peer > 65535 || l.state == Live && l.peer == 0 {
					t.Fatalf("%+v", l)
				}
			}
		}
	}
}
