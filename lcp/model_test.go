package lcp

import (
	"math/rand/v2"
	"slices"
	"strings"
	"testing"

	"tollgate/api"
	"tollgate/neg"
	"tollgate/tape"
)

// P1201 to P1205 at any steps: a model that hears all through a mask. Behind it stands a negotiation of chapter 11, which knows one protocol alone and no Magic of its own: what it can't know is masked as something that it judges alike, and unmasked in what it says.

type model struct {
	c       Config
	n       *neg.Neg
	tape    *tape.Tape
	request []api.Option // what is asked for, followed by hand
	last    int          // the Id of the last ConfReq, or -1
	magic   string
	loops   int
	count   int // of ticks
	missed  int
	theirs  []api.Option
}

func newModel(c Config, draws []int) *model {
	four := api.Rule{Type: 5, Len: 4, Min: 1, Max: 1<<32 - 1, Suggest: "\x00\x00\x00\x01"}
	n, err := neg.New(neg.Setup{
		Ask:       Options(c),
		Own:       []api.Rule{{Type: 1, Len: 2, Min: 64, Max: 1492, Suggest: usual}, four},
		Peer:      []api.Rule{{Type: 1, Len: 2, Min: 64, Max: 65535, Suggest: usual}, {Type: 3, Len: 3, Min: 0xc22305, Max: 0xc22305, Suggest: byChap}, four},
		Must:      []int{3},
		Configure: c.Configure, Terminate: c.Terminate, Fails: c.Fails, Wait: c.Wait,
	})
	if err != api.OK {
		panic(err)
	}
	b := []byte{byte(c.Magic / 16777216 % 256), byte(c.Magic / 65536 % 256), byte(c.Magic / 256 % 256), byte(c.Magic % 256)}
	return &model{c: c, n: n, tape: tape.New(draws), request: Options(c), last: -1, magic: string(b)}
}

// heard notes the Id of the last request among what is sent, and whether it came up.
func (m *model) heard(ups int, sent []api.Packet) []api.Packet {
	for _, p := range sent {
		if p.Code == api.ConfReq {
			m.last = p.Id
		}
	}
	if now, _ := m.n.Ups(); now != ups {
		m.count = 0
	}
	return sent
}

func (m *model) ups() int {
	ups, _ := m.n.Ups()
	return ups
}

func (m *model) do(event int) []api.Packet { return m.heard(m.ups(), m.n.Do(event)) }

func (m *model) opened() bool { return m.n.State() == api.Opened }

// id takes an Id of the negotiation, by a Code that it does not know.
func (m *model) id() int { return m.n.Take(bare(99, 0, ""))[0].Id }

func (m *model) tick() []api.Packet {
	out := m.heard(m.ups(), m.n.Tick())
	if !m.opened() || m.c.Echo == 0 {
		return out
	}
	m.count++
	if m.count%m.c.Echo != 0 {
		return out
	}
	if m.missed == 3 {
		return append(out, m.do(api.Close)...)
	}
	m.missed++
	return append(out, bare(api.EchoReq, m.id(), m.magic))
}

func (m *model) take(p api.Packet) []api.Packet {
	switch p.Code {
	case api.ConfReq:
		return m.takeRequest(p)
	case api.ConfNak, api.ConfRej:
		m.follow(p)
	case api.EchoReq:
		if !m.opened() {
			return nil
		}
		data := p.Data + "...."[:max(0, 4-len(p.Data))]
		return []api.Packet{bare(api.EchoRep, p.Id, m.magic+data[4:])}
	case api.EchoRep:
		if m.opened() {
			m.missed = 0
		}
		return nil
	case api.Discard, api.ProtRej:
		return nil
	}
	return m.heard(m.ups(), m.n.Take(p))
}

// follow does to the request what an answer asks for.
func (m *model) follow(p api.Packet) {
	if m.last < 0 || p.Id != m.last {
		return
	}
	if p.Code == api.ConfRej {
		at := -1
		for _, o := range p.Options {
			i := slices.Index(m.request, o)
			if i <= at || o.Type == 3 {
				return
			}
			at = i
		}
		m.request = slices.DeleteFunc(m.request, func(o api.Option) bool { return slices.Contains(p.Options, o) })
		return
	}
	for _, o := range p.Options {
		i := slices.IndexFunc(m.request, func(x api.Option) bool { return x.Type == o.Type })
		good := o.Type == 1 && len(o.Value) == 2 && o.Value >= "\x00\x40" && o.Value <= usual || o.Type == 5 && len(o.Value) == 4 && o.Value != nought
		switch {
		case i < 0 || o.Type == 3:
		case good:
			m.request[i] = o
			if o.Type == 5 {
				m.magic = o.Value
			}
		default:
			m.request = slices.Delete(m.request, i, i+1)
		}
	}
}

// mask hides PAP behind CHAP, which fits as well, and this end's Magic behind 0, which fits as little.
func (m *model) mask(o api.Option) api.Option {
	switch {
	case o == opt(3, byPap):
		return opt(3, byChap)
	case o.Type == 5 && o.Value == m.magic:
		return opt(5, nought)
	}
	return o
}

func (m *model) takeRequest(p api.Packet) []api.Packet {
	if m.magic != nought && slices.Contains(p.Options, magic(m.magic)) {
		m.loops++
	}
	if m.loops >= 4 {
		return m.do(api.Close)
	}
	masked := pk(p.Code, p.Id)
	for _, o := range p.Options {
		masked.Options = append(masked.Options, m.mask(o))
	}
	code, named := neg.Judge([]api.Rule{{Type: 1, Len: 2, Min: 64, Max: 65535}, {Type: 3, Len: 3, Min: 0xc22305, Max: 0xc22305}, {Type: 5, Len: 4, Min: 1, Max: 1<<32 - 1}}, masked.Options)
	drawn := ""
	if code == api.ConfNak && slices.ContainsFunc(named, func(o api.Option) bool { return o.Type == 5 }) {
		drawn = m.tape.Bytes(4)
		if drawn == nought {
			drawn = "\x00\x00\x00\x01"
		}
	}
	sent := m.heard(m.ups(), m.n.Take(masked))
	for i, out := range sent {
		if out.Code < api.ConfAck || out.Code > api.ConfRej {
			continue
		}
		sent[i].Options = m.unmask(out, p.Options, drawn)
		if out.Code == api.ConfAck {
			m.theirs = slices.Clone(p.Options)
		}
	}
	return sent
}

// unmask tells the options of an answer as they would be without the mask.
func (m *model) unmask(out api.Packet, asked []api.Option, drawn string) []api.Option {
	switch out.Code {
	case api.ConfAck:
		return slices.Clone(asked)
	case api.ConfNak:
		if i := slices.IndexFunc(out.Options, func(o api.Option) bool { return o.Type == 5 }); i >= 0 {
			out.Options[i].Value = drawn
		}
		return out.Options
	}
	var strange, refused []api.Option // what has no rule or stands twice; or else, behind naks, what did not fit
	for i, o := range asked {
		same := func(x api.Option) bool { return x.Type == o.Type }
		if !slices.Contains([]int{1, 3, 5}, o.Type) || slices.ContainsFunc(asked[:i], same) {
			strange = append(strange, o)
		}
		if slices.ContainsFunc(out.Options, same) {
			refused = append(refused, o)
		}
	}
	if strange != nil {
		return strange
	}
	return refused
}

func (m *model) reject(proto int, data string) []api.Packet {
	if !m.opened() || proto < 0 || proto > 65535 {
		return nil
	}
	all := string([]byte{byte(proto / 256), byte(proto % 256)}) + data
	if len(all) > 1488 {
		all = all[:1488]
	}
	return []api.Packet{bare(api.ProtRej, m.id(), all)}
}

// chance makes up what comes.
type chance struct{ *rand.Rand }

func (r chance) value(m *model) string {
	return []string{m.magic, m.magic, nought, "abcd", most, byPap, byChap, usual, "\x00\x40", "\x00\x3f", "", "\x07", "\x01\x02\x03", "\x00\x00\x00\x09", "\xc2\x23\x80"}[r.IntN(15)]
}

// option makes up an option, mostly one of which the value has a chance to fit.
func (r chance) option(m *model) api.Option {
	switch r.IntN(8) {
	case 0, 1:
		return opt(1, []string{usual, "\x00\x40", "\x00\x3f", "\xff\xff"}[r.IntN(4)])
	case 2, 3:
		return opt(3, []string{byPap, byChap, "\xc2\x23\x80"}[r.IntN(3)])
	case 4, 5:
		return opt(5, []string{"abcd", "efgh", most, nought, "\x00\x00\x00\x09", m.magic}[r.IntN(6)])
	}
	return opt([]int{1, 3, 5, 5, 4, 9}[r.IntN(6)], r.value(m))
}

func (r chance) options(m *model) []api.Option {
	var l []api.Option
	for range r.IntN(4) {
		l = append(l, r.option(m))
	}
	return l
}

func (r chance) packet(m *model) api.Packet {
	id := m.last
	if r.IntN(6) == 0 {
		id = r.IntN(256)
	}
	switch r.IntN(16) {
	case 0, 1, 2, 3:
		return pk(api.ConfReq, r.IntN(256), r.options(m)...)
	case 4:
		return pk(api.ConfReq, r.IntN(256))
	case 5, 6, 7:
		return pk(api.ConfAck, id, m.request...)
	case 8:
		return pk(api.ConfNak, id, r.options(m)...)
	case 9:
		var some []api.Option
		for _, o := range m.request {
			if r.IntN(2) == 0 && (o.Type != 3 || r.IntN(4) == 0) {
				some = append(some, o)
			}
		}
		return pk(api.ConfRej, id, some...)
	case 10, 11:
		return bare(api.EchoReq+r.IntN(3), r.IntN(256), "abcdefgh"[:r.IntN(9)])
	case 12:
		return bare(api.EchoRep, r.IntN(256), "")
	}
	return bare([]int{api.TermReq, api.TermAck, api.CodeRej, api.ProtRej, 0, 12, 77}[r.IntN(7)], r.IntN(256), string([]byte{byte(r.IntN(12)), 1}[:r.IntN(3)]))
}

func (r chance) config() Config {
	c := Config{Mru: []int{1492, 64, 1000}[r.IntN(3)], Auth: []int{0, api.ProtoPap, api.ProtoChap}[r.IntN(3)], Magic: []int{0, 7, 1<<32 - 1, 0x61626364}[r.IntN(4)]}
	c.Echo, c.Configure, c.Terminate, c.Fails, c.Wait = r.IntN(4), 1+r.IntN(5), 1+r.IntN(3), r.IntN(4), 1+r.IntN(3)
	return c
}

func (r chance) draws() []int {
	l := make([]int, 4*r.IntN(5))
	for i := range l {
		l[i] = (r.IntN(3) - 1) * r.IntN(300)
	}
	return l
}

// step lets something happen to both, and holds what they say of it against each other.
func step(t *testing.T, r chance, l *Lcp, m *model) []api.Packet {
	t.Helper()
	var got, want []api.Packet
	switch k := r.IntN(24); {
	case k < 14:
		p := r.packet(m)
		q := p
		q.Options = append(slices.Clone(p.Options), opt(99, "room"))[:len(p.Options)]
		got, want = l.Take(q), m.take(p)
		if !slices.Equal(q.Options, p.Options) || q.Options[:len(p.Options)+1][len(p.Options)] != opt(99, "room") {
			t.Errorf("Take changed %v", p)
		}
		spoil(q.Options)
	case k < 18:
		got, want = l.Tick(), m.tick()
	case k < 20:
		proto, data := r.IntN(65538)-1, strings.Repeat("z", r.IntN(3)*745)
		got, want = l.Reject(proto, data), m.reject(proto, data)
	case k < 23:
		event := []int{api.Up, api.Up, api.Open, api.Open, api.Down, api.Close, r.IntN(20) - 2}[r.IntN(7)]
		got, want = l.Do(event), m.do(event)
	default:
		mine, theirs := r.options(m), r.options(m)
		ups := m.ups()
		a, b := l.Adopt(mine, theirs), m.n.Adopt(mine, theirs)
		m.heard(ups, nil)
		if a != b {
			t.Errorf("Adopt = %d, not %d", a, b)
		}
		if b == api.OK {
			m.theirs = theirs
		}
	}
	says(t, "a step", got, want...)
	return got
}

// compare holds what is told of a link against what the model has of it.
func compare(t *testing.T, l *Lcp, draws *tape.Tape, m *model) {
	t.Helper()
	is(t, "a step", l, m.n.State())
	ups, downs := m.n.Ups()
	came(t, "a step", l, ups, downs)
	looped(t, "a step", l, m.loops)
	left(t, "a step", draws, m.tape.Left())
	theirs := m.theirs
	if !m.opened() {
		theirs = nil
	}
	has(t, "a step", l, m.n.Mine(), theirs)
	first := func(l []api.Option, kind int) string {
		for _, o := range l {
			if o.Type == kind {
				return o.Value
			}
		}
		return ""
	}
	kinds := map[string]int{byPap: api.ProtoPap, byChap: api.ProtoChap}
	mru := 1492
	if unit := first(theirs, 1); len(unit) == 2 {
		mru = int(unit[0])*256 + int(unit[1])
	}
	tells(t, "a step", l, kinds[first(m.n.Mine(), 3)], kinds[first(theirs, 3)], mru)
}

func TestP1201To1205AnySteps(t *testing.T) {
	r := chance{rand.New(rand.NewPCG(12, 2))}
	seen, said, loops := [10]int{}, map[int]int{}, [5]int{}
	for range 3000 {
		c, l := r.config(), r.draws()
		draws := tape.New(l)
		link, m := made(t, c, draws), newModel(c, l)
		for range 100 {
			sent := step(t, r, link, m)
			compare(t, link, draws, m)
			if t.Failed() {
				t.Fatalf("%+v", c)
			}
			seen[link.State()]++
			for _, p := range sent {
				said[p.Code]++
			}
			spoilPackets(sent)
			spoil(link.Mine())
			spoil(link.Theirs())
		}
		loops[min(link.Loops(), 4)]++
	}
	for state, times := range seen {
		if times < 1000 {
			t.Errorf("it was %s only %d times", states[state], times)
		}
	}
	for code := api.ConfReq; code <= api.EchoRep; code++ {
		if said[code] < 300 {
			t.Errorf("%d was sent only %d times", code, said[code])
		}
	}
	for n, times := range loops {
		if times < 100 {
			t.Errorf("there were %d loops only %d times", n, times)
		}
	}
}
