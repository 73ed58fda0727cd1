package tunnel

import (
	"cmp"

	"tollgate/api"
	"tollgate/avp"
	"tollgate/digest"
	"tollgate/msg"
)

// Take takes what came; the calls' messages.
func (t *Tunnel) Take(b string) []api.Ctl {
	if t.State() == Dead {
		return nil
	}
	m, err := msg.Get(b, t.config.Secret)
	if err != api.OK || !t.isMine(m) {
		return nil
	}
	if t.state == WaitReply && msg.Kind(m) == api.Sccrq && !t.yields(m) {
		return nil
	}
	if t.state == Live {
		t.ticks = 0
	}
	if len(t.way.Take(item(m, b))) == 0 {
		return nil
	}
	return t.handle(m)
}

// isMine tells whether a message is for this end: who asks for a tunnel can't know its id yet.
func (t *Tunnel) isMine(m api.Ctl) bool {
	if m.Tunnel == t.config.Id {
		return true
	}
	return m.Tunnel == 0 && msg.Kind(m) == api.Sccrq && (t.state == Idle || t.state == WaitReply)
}

// yields looks at the Sccrq of a peer where both opened. With the greater tie this end is as one that did not.
func (t *Tunnel) yields(m api.Ctl) bool {
	theirs, _ := avp.Find(m.Avps, api.AvpTie)
	if m.Ns != 0 || len(theirs) != tieLen {
		return false
	}
	switch cmp.Compare(number(theirs), number(t.tie)) {
	case 0:
		t.enter(Dead)
		return false
	case 1:
		return false
	}
	t.enter(Idle)
	t.way, _ = t.config.channel() // New made one of the same
	return true
}

// handle does what a message says that came in its turn.
func (t *Tunnel) handle(m api.Ctl) []api.Ctl {
	kind := msg.Kind(m)
	if kind >= api.Ocrq {
		return t.forCall(m)
	}
	if msg.Check(m) != api.OK {
		t.stop(unfit)
		return nil
	}
	switch {
	case kind == api.Stopccn:
		t.stopped()
	case kind == api.Sccrq && t.state == Idle:
		t.asked(m.Avps)
	case kind == api.Sccrp && t.state == WaitReply:
		t.replied(m.Avps)
	case kind == api.Scccn && t.state == WaitConn:
		t.connected(m.Avps)
	}
	return nil
}

// forCall tells a call's message; whether that is whole is its call's to say.
func (t *Tunnel) forCall(m api.Ctl) []api.Ctl {
	if t.state != Live {
		return nil
	}
	return []api.Ctl{{Tunnel: m.Tunnel, Session: m.Session, Avps: m.Avps}}
}

// asked handles Sccrq.
func (t *Tunnel) asked(l []api.Avp) {
	if !t.meets(l) {
		return
	}
	if t.challenged(l) != t.secret() {
		t.stop(unknown)
		return
	}
	t.reply()
	t.enter(WaitConn)
}

// replied handles Sccrp.
func (t *Tunnel) replied(l []api.Avp) {
	if !t.meets(l) {
		return
	}
	if t.challenged(l) != t.secret() || !t.answered(api.Sccrp, l) {
		t.stop(unknown)
		return
	}
	t.connect()
	t.enter(Live)
}

// connected handles Scccn; without a secret a response says nothing.
func (t *Tunnel) connected(l []api.Avp) {
	if t.secret() && !t.answered(api.Scccn, l) {
		t.stop(unknown)
		return
	}
	t.enter(Live)
}

// meets takes what the peer says of itself. One without an id is none to talk with.
func (t *Tunnel) meets(l []api.Avp) bool {
	t.peer, _ = avp.Number(l, api.AvpTunnel)
	t.name, _ = avp.Find(l, api.AvpName)
	if window, there := avp.Number(l, api.AvpWindow); there {
		t.way.Window(window) // one that can't be is refused there
	}
	if t.peer == 0 {
		t.stop(unfit)
		return false
	}
	return true
}

// challenged takes the peer's challenge; is there one?
func (t *Tunnel) challenged(l []api.Avp) bool {
	challenge, there := avp.Find(l, api.AvpChallenge)
	t.theirs = challenge
	return there
}

// answered tells whether the own challenge is answered; without a secret: whether no answer is there.
func (t *Tunnel) answered(kind int, l []api.Avp) bool {
	response, there := avp.Find(l, api.AvpResponse)
	if !t.secret() {
		return !there
	}
	return digest.Same(response, digest.Chap(kind, t.config.Secret, t.mine))
}
