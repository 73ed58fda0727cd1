package tunnel

import (
	"tollgate/api"
	"tollgate/avp"
	"tollgate/ctl"
	"tollgate/msg"
)

const (
	byteBits = 8
	wordLen  = 2
	headLen  = 12 // of a message, ahead of its values
	sizeAt   = 2  // where a message says how many bytes it has
)

// word lays a number into two bytes.
func word(v int) string { return string([]byte{byte(v >> byteBits), byte(v)}) }

// number tells the number of at most eight bytes, without a sign.
func number(b string) uint64 {
	v := uint64(0)
	for i := range len(b) {
		v = v<<byteBits | uint64(b[i])
	}
	return v
}

// body tells what the channel brings over: the Session ahead of the values' bytes.
func body(session int, values string) string { return word(session) + values }

// item tells what came as the channel takes it; b are the bytes of m.
func item(m api.Ctl, b string) ctl.Item {
	i := ctl.Item{Ns: m.Ns, Nr: m.Nr}
	if len(m.Avps) > 0 { // without values it is an ack alone
		i.Body = body(m.Session, b[headLen:number(b[sizeAt:sizeAt+wordLen])])
	}
	return i
}

// message tells the bytes of what the channel sends.
func (t *Tunnel) message(i ctl.Item) string {
	m := api.Ctl{Tunnel: t.peer, Ns: i.Ns, Nr: i.Nr}
	if i.Body != "" {
		m.Session = int(number(i.Body[:wordLen]))
		m.Avps, _ = avp.Get(i.Body[wordLen:], t.config.Secret) // they were laid with that secret
	}
	b, _ := msg.Put(m, t.config.Secret)
	return b
}
