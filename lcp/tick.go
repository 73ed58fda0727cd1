package lcp

import "tollgate/api"

const mostMissed = 3

// Tick lets a tick go by; what is sent.
func (l *Lcp) Tick() []api.Packet {
	out := l.negotiation().Tick()
	if !l.isOpened() || l.echo == 0 {
		return out
	}
	return append(out, l.tickOpened()...)
}

// tickOpened asks from time to time whether the peer is still there, and ends a link on which nobody answers.
func (l *Lcp) tickOpened() []api.Packet {
	if ups, _ := l.talk.Ups(); ups != l.ups {
		l.ups, l.ticks = ups, 0
	}
	l.ticks++
	if l.ticks < l.echo {
		return nil
	}
	l.ticks = 0
	if l.missed >= mostMissed {
		return l.talk.Do(api.Close)
	}
	l.missed++
	return []api.Packet{{Code: api.EchoReq, Id: l.talk.NextId(), Data: l.sign()}}
}
