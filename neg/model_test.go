package neg

import (
	"math/rand/v2"
	"slices"
	"testing"

	"tollgate/api"
	"tollgate/auto"
	"tollgate/opts"
)

// P1103 to P1105 at any steps: a model that keeps a diary of what happened, and works out from that what is to be said.

// entry is a line of the diary.
type entry struct {
	what string // "sent", "good" (a request), "mine", "theirs", "tick", "over" (of time), "up", "down"
	p    api.Packet
}

type model struct {
	s       Setup
	machine *auto.Auto
	request []api.Option
	diary   []entry
}

func (m *model) note(what string, p api.Packet) { m.diary = append(m.diary, entry{what, p}) }

// count counts the lines of one kind, and of some Codes, if there are any.
func (m *model) count(from int, what string, codes ...int) int {
	n := 0
	for _, e := range m.diary[from:] {
		if e.what == what && (len(codes) == 0 || slices.Contains(codes, e.p.Code)) {
			n++
		}
	}
	return n
}

// behind tells the place behind the last line of one kind, and of some Codes.
func (m *model) behind(what string, codes ...int) int {
	for i := len(m.diary); i > 0; i-- {
		if e := m.diary[i-1]; e.what == what && (len(codes) == 0 || slices.Contains(codes, e.p.Code)) {
			return i
		}
	}
	return 0
}

// last tells what stands in the last line of one kind.
func (m *model) last(what string, codes ...int) (api.Packet, bool) {
	if i := m.behind(what, codes...); i > 0 {
		return m.diary[i-1].p, true
	}
	return api.Packet{}, false
}

// next tells the next Id: all are counted that were used.
func (m *model) next() int {
	return (m.count(0, "sent", api.ConfReq, api.TermReq, api.CodeRej) + 1) % 256
}

func (m *model) send(out []api.Packet, p api.Packet) []api.Packet {
	m.note("sent", p)
	return append(out, p)
}

func (m *model) act(does []int, p api.Packet) []api.Packet {
	var out []api.Packet
	for _, action := range does {
		switch action {
		case api.Tlu:
			m.note("up", p)
		case api.Tld:
			m.note("down", p)
		case api.Scr:
			out = m.send(out, pk(api.ConfReq, m.next(), slices.Clone(m.request)...))
		case api.Sca:
			m.note("theirs", pk(0, 0, p.Options...))
			out = m.send(out, pk(api.ConfAck, p.Id, p.Options...))
		case api.Scn:
			out = m.send(out, m.refusal(p))
		case api.Str:
			out = m.send(out, bare(api.TermReq, m.next(), ""))
		case api.Sta:
			out = m.send(out, bare(api.TermAck, p.Id, ""))
		case api.Scj:
			b, _ := opts.Put(p)
			if len(b) > 1488 {
				b = b[:1488]
			}
			out = m.send(out, bare(api.CodeRej, m.next(), b))
		}
	}
	return out
}

func (m *model) refusal(p api.Packet) api.Packet {
	code, l := judgeByHand(m.s.Peer, p.Options)
	if code == api.ConfNak && m.s.Fails > 0 && m.count(m.behind("good"), "sent", api.ConfNak) >= m.s.Fails {
		var asked []api.Option
		for _, o := range p.Options {
			if slices.ContainsFunc(l, func(x api.Option) bool { return x.Type == o.Type }) {
				asked = append(asked, o)
			}
		}
		return pk(api.ConfRej, p.Id, asked...)
	}
	return pk(code, p.Id, l...)
}

func (m *model) do(event int) []api.Packet {
	if event < 0 || event > 3 {
		return nil
	}
	return m.act(m.machine.Do(event), api.Packet{})
}

func (m *model) tick() []api.Packet {
	if !m.machine.Waits() {
		return nil
	}
	m.note("tick", api.Packet{})
	if m.count(max(m.behind("sent", api.ConfReq, api.TermReq), m.behind("over")), "tick") < m.s.Wait {
		return nil
	}
	m.note("over", api.Packet{})
	return m.act(m.machine.Timeout(), api.Packet{})
}

func (m *model) take(p api.Packet) []api.Packet {
	event := api.Ruc
	switch p.Code {
	case api.ConfReq:
		event = api.RcrMinus
		if code, _ := judgeByHand(m.s.Peer, p.Options); code == api.ConfAck {
			m.note("good", p)
			event = api.RcrPlus
		}
	case api.ConfAck, api.ConfNak, api.ConfRej:
		request, ok := m.last("sent", api.ConfReq)
		if !ok || request.Id != p.Id {
			return nil
		}
		if event = m.answered(p); event == nothing {
			return nil
		}
	case api.TermReq:
		event = api.Rtr
	case api.TermAck:
		event = api.Rta
	case api.CodeRej:
		if len(p.Data) == 0 {
			return nil
		}
		event = api.RxjPlus
		if slices.Contains([]byte{1, 2, 3, 4, 5, 6, 7}, p.Data[0]) {
			event = api.RxjMinus
		}
	}
	return m.act(m.machine.Do(event), p)
}

// answered tells the event of an answer to the last request, and lets the request change.
func (m *model) answered(p api.Packet) int {
	must := func(o api.Option) bool { return slices.Contains(m.s.Must, o.Type) }
	switch p.Code {
	case api.ConfAck:
		if !slices.Equal(p.Options, m.request) {
			return nothing
		}
		m.note("mine", pk(0, 0, p.Options...))
		return api.Rca
	case api.ConfRej:
		place := -1
		for _, o := range p.Options {
			at := slices.Index(m.request, o)
			if at <= place {
				return nothing
			}
			place = at
		}
		if slices.ContainsFunc(p.Options, must) {
			return api.RxjMinus
		}
		m.request = slices.DeleteFunc(slices.Clone(m.request), func(o api.Option) bool { return slices.Contains(p.Options, o) })
		return api.Rcn
	}
	for _, o := range p.Options {
		rule := slices.IndexFunc(m.s.Own, func(r api.Rule) bool { return r.Type == o.Type })
		var l []api.Option
		for _, have := range m.request {
			switch {
			case have.Type != o.Type:
				l = append(l, have)
			case rule >= 0 && fitsByHand(m.s.Own[rule], o.Value):
				l = append(l, o)
			case must(o):
				l = append(l, have)
			}
		}
		m.request = l
	}
	return api.Rcn
}

func (m *model) adopt(mine, theirs []api.Option) api.Errno {
	if s := m.machine.State(); s != api.Initial && s != api.Starting {
		return api.ErrState
	}
	if _, err := opts.PutOptions(mine); err != api.OK {
		return err
	}
	if _, err := opts.PutOptions(theirs); err != api.OK {
		return err
	}
	m.note("mine", pk(0, 0, mine...))
	m.note("theirs", pk(0, 0, theirs...))
	m.note("up", api.Packet{})
	for _, event := range []int{api.Open, api.Up, api.RcrPlus, api.Rca} {
		m.machine.Do(event)
	}
	return api.OK
}

// chance makes up what comes.
type chance struct{ *rand.Rand }

func (r chance) value() string {
	b := make([]byte, r.IntN(3))
	for i := range b {
		b[i] = byte(r.IntN(3))
	}
	return string(b)
}

func (r chance) options() []api.Option {
	l := make([]api.Option, r.IntN(4))
	for i := range l {
		l[i] = opt(r.IntN(6), r.value())
	}
	return l
}

func (r chance) rules() []api.Rule {
	var l []api.Rule
	for range r.IntN(5) {
		v := r.value()
		l = append(l, api.Rule{Type: r.IntN(6), Len: len(v), Min: numberOf(v) - r.IntN(2), Max: numberOf(v) + r.IntN(300), Suggest: v})
	}
	return l
}

func (r chance) setup() Setup {
	s := Setup{Own: r.rules(), Peer: r.rules(), Configure: 1 + r.IntN(4), Terminate: 1 + r.IntN(3), Fails: r.IntN(4), Wait: 1 + r.IntN(4)}
	for _, kind := range r.Perm(5)[:r.IntN(5)] {
		s.Ask = append(s.Ask, opt(kind+1, r.value()))
	}
	for range r.IntN(3) {
		s.Must = append(s.Must, r.IntN(6))
	}
	return s
}

// some tells some of a list, mostly in order.
func (r chance) some(l []api.Option) []api.Option {
	var out []api.Option
	for _, o := range l {
		if r.IntN(3) == 0 {
			out = append(out, o)
		}
	}
	if r.IntN(5) == 0 {
		r.Shuffle(len(out), func(i, j int) { out[i], out[j] = out[j], out[i] })
	}
	return out
}

// good tells options that rules let be.
func (r chance) good(rules []api.Rule) []api.Option {
	var out []api.Option
	for _, rule := range rules {
		if _, ok := opts.Find(out, rule.Type); !ok && r.IntN(2) == 0 {
			out = append(out, opt(rule.Type, rule.Suggest))
		}
	}
	return out
}

// packet makes up a packet that may mean something to m.
func (r chance) packet(m *model) api.Packet {
	id := r.IntN(256)
	if p, ok := m.last("sent", api.ConfReq); ok && r.IntN(6) > 0 {
		id = p.Id
	}
	switch r.IntN(12) {
	case 0, 1, 2:
		return pk(api.ConfReq, id, r.good(m.s.Peer)...)
	case 3, 4:
		return pk(api.ConfReq, id, r.options()...)
	case 5, 6:
		return pk(api.ConfAck, id, slices.Clone(m.request)...)
	case 7:
		return pk(api.ConfNak, id, append(r.good(m.s.Own), r.options()...)...)
	case 8:
		return pk(api.ConfRej, id, r.some(m.request)...)
	case 9:
		return pk(api.ConfAck+r.IntN(3), id, r.options()...)
	case 10:
		return bare(api.TermReq+r.IntN(2), id, r.value())
	}
	return bare(r.IntN(14), id, string([]byte{byte(r.IntN(10)), 1}[:r.IntN(3)]))
}

// roomy tells a list in whose spare room something stands.
func roomy(l []api.Option) []api.Option {
	return append(slices.Clone(l), opt(99, "room"), opt(98, "more"))[:len(l)]
}

// untouched tells whether a list and its spare room are as they were, and spoils both: who handed it in may.
func untouched(l, kept []api.Option) bool {
	same := slices.Equal(l, kept) && slices.Equal(l[len(l):len(l)+2], []api.Option{opt(99, "room"), opt(98, "more")})
	spoil(l)
	return same
}

func TestP1103To1105AnySteps(t *testing.T) {
	r := chance{rand.New(rand.NewPCG(11, 6))}
	seen, said := [10]int{}, map[int]int{}
	for range 1500 {
		s := r.setup()
		given := s
		given.Ask, given.Own, given.Peer, given.Must = roomy(s.Ask), slices.Clone(s.Own), slices.Clone(s.Peer), slices.Clone(s.Must)
		n := made(t, given)
		if !untouched(given.Ask, s.Ask) {
			t.Fatalf("New changed Ask")
		}
		clear(given.Own)
		clear(given.Peer)
		clear(given.Must)
		machine, _ := auto.New(s.Configure, s.Terminate)
		m := &model{s: s, machine: machine, request: slices.Clone(s.Ask)}
		for range 120 {
			step(t, r, n, m)
			if t.Failed() {
				t.Fatalf("%+v\n%+v", s, m.diary)
			}
			seen[n.State()]++
		}
		for _, e := range m.diary {
			if e.what == "sent" {
				said[e.p.Code]++
			}
		}
	}
	for state, times := range seen {
		if times < 500 {
			t.Errorf("it was %s only %d times", states[state], times)
		}
	}
	for code := api.ConfReq; code <= api.CodeRej; code++ {
		if said[code] < 500 {
			t.Errorf("%d was sent only %d times", code, said[code])
		}
	}
}

// step lets something happen to both, and holds what they say of it against each other.
func step(t *testing.T, r chance, n *Neg, m *model) {
	t.Helper()
	var got, want []api.Packet
	switch k := r.IntN(20); {
	case k < 11:
		p := r.packet(m)
		q := p
		q.Options = roomy(p.Options)
		want, got = m.take(p), n.Take(q)
		if !untouched(q.Options, p.Options) {
			t.Errorf("Take changed %v", p)
		}
	case k < 15:
		got, want = n.Tick(), m.tick()
	case k < 19:
		event := []int{api.Up, api.Up, api.Up, api.Open, api.Open, api.Open, api.Down, api.Close, r.IntN(20) - 2}[r.IntN(9)]
		got, want = n.Do(event), m.do(event)
	case r.IntN(3) == 0:
		mine, theirs := r.options(), r.options()
		a, b := roomy(mine), roomy(theirs)
		if x, y := n.Adopt(a, b), m.adopt(mine, theirs); x != y {
			t.Errorf("Adopt = %d, not %d", x, y)
		}
		if !untouched(a, mine) || !untouched(b, theirs) {
			t.Errorf("Adopt changed %v, %v", mine, theirs)
		}
	}
	says(t, "a step", got, want...)
	spoilPackets(got)
	is(t, "a step", n, m.machine.State())
	came(t, "a step", n, m.count(0, "up"), m.count(0, "down"))
	mine, _ := m.last("mine")
	theirs, _ := m.last("theirs")
	if m.machine.State() != api.Opened {
		mine, theirs = api.Packet{}, api.Packet{}
	}
	has(t, "a step", n, mine.Options, theirs.Options)
	spoil(n.Mine())
	spoil(n.Theirs())
}
