package tunnel

import (
	"tollgate/api"
	"tollgate/avp"
	"tollgate/digest"
	"tollgate/msg"
)

const (
	version      = 1 << 8 // 1, revision 0
	framing      = 3      // both ways of it
	framingLen   = 4
	tieLen       = 8
	challengeLen = 16
)

// Why an end stops.
const (
	closed  = 1
	unfit   = 2 // what came is not whole
	unknown = 4 // the peer doesn't know the secret
)

func text(kind int, value string) api.Avp { return api.Avp{Must: true, Type: kind, Value: value} }

// say lets a message of the tunnel itself wait. Of a queue that is full it is lost: nothing can be done about that.
func (t *Tunnel) say(kind int, l ...api.Avp) {
	values, _ := avp.Put(msg.Make(kind, l...), t.config.Secret)
	t.way.Send(body(0, values))
}

// ask says Sccrq.
func (t *Tunnel) ask() {
	t.tie = t.draws.Bytes(tieLen)
	l := append(t.about(), text(api.AvpTie, t.tie))
	t.say(api.Sccrq, append(l, t.challenge()...)...)
}

// reply says Sccrp.
func (t *Tunnel) reply() {
	l := append(t.about(), t.response(api.Sccrp)...)
	t.say(api.Sccrp, append(l, t.challenge()...)...)
}

// connect says Scccn.
func (t *Tunnel) connect() { t.say(api.Scccn, t.response(api.Scccn)...) }

// stop says Stopccn, and that is the end.
func (t *Tunnel) stop(code int) {
	t.say(api.Stopccn, avp.Num(api.AvpTunnel, t.config.Id, wordLen), avp.Num(api.AvpResult, code, wordLen))
	t.stopped()
}

// stopped is the end behind a Stopccn, be it sent or heard.
func (t *Tunnel) stopped() {
	t.enter(Dead)
	t.last = true
}

// about tells what both ends say of themselves.
func (t *Tunnel) about() []api.Avp {
	return []api.Avp{
		avp.Num(api.AvpVersion, version, wordLen),
		avp.Num(api.AvpFraming, framing, framingLen),
		text(api.AvpName, t.config.Name),
		avp.Num(api.AvpTunnel, t.config.Id, wordLen),
		avp.Num(api.AvpWindow, t.config.Window, wordLen),
	}
}

// challenge draws what the peer is to answer; without a secret it is asked nothing.
func (t *Tunnel) challenge() []api.Avp {
	if !t.secret() {
		return nil
	}
	t.mine = t.draws.Bytes(challengeLen)
	return []api.Avp{text(api.AvpChallenge, t.mine)}
}

// response answers the peer's challenge: with a secret on this side there is one, or it would have come to an end.
func (t *Tunnel) response(kind int) []api.Avp {
	if !t.secret() {
		return nil
	}
	return []api.Avp{text(api.AvpResponse, digest.Chap(kind, t.config.Secret, t.theirs))}
}

func (t *Tunnel) secret() bool { return t.config.Secret != "" }

// Open begins.
func (t *Tunnel) Open() api.Errno {
	if t.State() != Idle {
		return api.ErrState
	}
	t.ask()
	t.enter(WaitReply)
	return api.OK
}

// Close ends it.
func (t *Tunnel) Close() {
	switch t.State() {
	case WaitReply, WaitConn, Live:
		t.stop(closed)
	case Idle:
		t.enter(Dead)
	}
}

// Send sends a call's message.
func (t *Tunnel) Send(session int, l []api.Avp) api.Errno {
	if t.State() != Live {
		return api.ErrState
	}
	if session < 0 || session > mostWord {
		return api.ErrArg
	}
	values, err := avp.Put(l, t.config.Secret)
	if err != api.OK {
		return err
	}
	return t.way.Send(body(session, values))
}

// Out tells what is to be sent now.
func (t *Tunnel) Out() []string {
	if t.State() == Dead && !t.lasts() {
		return nil
	}
	var out []string
	for _, i := range t.way.Out() {
		out = append(out, t.message(i))
	}
	return out
}

// lasts tells whether a dead one has something to say yet; this once.
func (t *Tunnel) lasts() bool {
	if t.isNone() || !t.last {
		return false
	}
	t.last = false
	return true
}
