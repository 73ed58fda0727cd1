package lcp

import (
	"slices"

	"tollgate/api"
	"tollgate/neg"
	"tollgate/opts"
)

const (
	mostLoops = 4
	mostData  = api.MaxData - 12 // so that what is rejected has room behind a head of its own
	mostProto = 65535
)

// Take takes a packet; what is sent.
func (l *Lcp) Take(p api.Packet) []api.Packet {
	if l.negotiation() == nil {
		return nil
	}
	switch p.Code {
	case api.ConfReq:
		return l.takeRequest(p)
	case api.ConfNak:
		return l.takeNak(p)
	case api.EchoReq:
		return l.takeEcho(p)
	case api.EchoRep:
		if l.isOpened() {
			l.missed = 0
		}
		return nil
	case api.Discard, api.ProtRej:
		return nil // a ProtRej would be RxjPlus in Opened, which changes nothing there
	}
	return l.talk.Take(p)
}

// takeRequest takes a request; who hears itself too often speaks to nobody else.
func (l *Lcp) takeRequest(p api.Packet) []api.Packet {
	if l.hearsItself(p.Options) {
		l.loops = min(l.loops+1, mostCounted)
	}
	if l.loops >= mostLoops {
		return l.talk.Do(api.Close)
	}
	return l.talk.TakeRequest(p, l.rulesFor(p.Options))
}

// hearsItself tells whether this end's own Magic comes back to it.
func (l *Lcp) hearsItself(asked []api.Option) bool {
	return l.magic != 0 && slices.Contains(asked, api.Option{Type: optMagic, Value: l.sign()})
}

// rulesFor tells the rules of a request. They hang on it: a rule has room for one protocol alone, and for no gap where this end's Magic is.
func (l *Lcp) rulesFor(asked []api.Option) []api.Rule {
	magic, auth := magicRule(), authRule(api.ProtoChap)
	if l.hearsItself(asked) {
		magic.Max = 0 // nothing fits
	}
	if authOf(asked) == api.ProtoPap {
		auth = authRule(api.ProtoPap)
	}
	rules := []api.Rule{mruRule(mostPeerMru), auth, magic}
	code, named := neg.Judge(rules, asked)
	if _, ok := opts.Find(named, optMagic); ok && code == api.ConfNak {
		rules[len(rules)-1].Suggest = l.draw() // not before: what is drawn is gone
	}
	return rules
}

// draw tells another Magic for the peer; 0 is none.
func (l *Lcp) draw() string {
	drawn := l.draws.Bytes(magicWide)
	if drawn == put(0, magicWide) {
		return put(1, magicWide)
	}
	return drawn
}

// takeNak takes a nak, by which this end may have another Magic.
func (l *Lcp) takeNak(p api.Packet) []api.Packet {
	out, taken := l.talk.TakeNak(p)
	for _, o := range taken {
		if o.Type == optMagic {
			l.magic, _ = opts.Value(o.Value)
		}
	}
	return out
}

// sign tells this end's Magic as it stands in packets.
func (l *Lcp) sign() string { return put(l.magic, magicWide) }

// takeEcho answers who asks whether this end is there, with its own sign in the place of the peer's.
func (l *Lcp) takeEcho(p api.Packet) []api.Packet {
	if !l.isOpened() {
		return nil
	}
	behind := p.Data[min(len(p.Data), magicWide):]
	return []api.Packet{{Code: api.EchoRep, Id: p.Id, Data: l.sign() + behind}}
}

// Reject rejects a protocol; what is sent.
func (l *Lcp) Reject(proto int, data string) []api.Packet {
	if !l.isOpened() || proto < 0 || proto > mostProto {
		return nil
	}
	room := data[:min(len(data), mostData-protoWide)]
	return []api.Packet{{Code: api.ProtRej, Id: l.talk.NextId(), Data: put(proto, protoWide) + room}}
}
