package neg

import (
	"slices"

	"tollgate/api"
	"tollgate/opts"
)

// Take takes a packet; what is sent.
func (n *Neg) Take(p api.Packet) []api.Packet {
	if n.isNone() {
		return nil
	}
	switch p.Code {
	case api.ConfReq:
		return n.takeRequest(p, n.peer)
	case api.ConfAck:
		return n.takeAck(p)
	case api.ConfNak:
		out, _ := n.TakeNak(p)
		return out
	case api.ConfRej:
		return n.takeRej(p)
	case api.TermReq:
		return n.happen(api.Rtr, cause{came: p})
	case api.TermAck:
		return n.happen(api.Rta, cause{came: p})
	case api.CodeRej:
		return n.takeReject(p)
	}
	return n.happen(api.Ruc, cause{came: p})
}

// TakeRequest takes a request by other rules than the Setup's, for a layer whose rules hang on what is asked for; what is sent.
func (n *Neg) TakeRequest(p api.Packet, rules []api.Rule) []api.Packet {
	if n.isNone() {
		return nil
	}
	return n.takeRequest(p, byType(rules))
}

func (n *Neg) takeRequest(p api.Packet, rules book) []api.Packet {
	code, l := rules.judge(p.Options)
	c := cause{came: p, answer: api.Packet{Code: code, Id: p.Id, Options: l}, rules: rules}
	if code != api.ConfAck {
		return n.happen(api.RcrMinus, c)
	}
	n.naks = 0
	return n.happen(api.RcrPlus, c)
}

// isHeard tells whether a packet answers the last request: what answers another one says nothing any more.
func (n *Neg) isHeard(p api.Packet) bool { return n.begun && p.Id == n.last }

func (n *Neg) takeAck(p api.Packet) []api.Packet {
	if !n.isHeard(p) || !opts.Same(p.Options, n.request) {
		return nil
	}
	n.mine = slices.Clone(p.Options)
	return n.happen(api.Rca, cause{came: p})
}

// TakeNak takes a nak; what is sent, and which of its options the request took on.
func (n *Neg) TakeNak(p api.Packet) ([]api.Packet, []api.Option) {
	if n.isNone() || !n.isHeard(p) {
		return nil, nil
	}
	var taken []api.Option
	for _, o := range p.Options {
		if n.change(o) {
			taken = append(taken, o)
		}
	}
	return n.happen(api.Rcn, cause{came: p}), taken
}

// change lets the request have what the peer would rather see there, or else no such option, if that may go; true, if it has it.
func (n *Neg) change(o api.Option) bool {
	i := slices.IndexFunc(n.request, func(r api.Option) bool { return r.Type == o.Type })
	if i < 0 {
		return false
	}
	if n.own.fits(o) {
		n.request[i].Value = o.Value
		return true
	}
	if !n.isMust(o) {
		n.request = slices.Delete(n.request, i, i+1)
	}
	return false
}

func (n *Neg) takeRej(p api.Packet) []api.Packet {
	left, ok := without(n.request, p.Options)
	if !ok || !n.isHeard(p) {
		return nil
	}
	if slices.ContainsFunc(p.Options, n.isMust) {
		return n.happen(api.RxjMinus, cause{came: p})
	}
	n.request = left
	return n.happen(api.Rcn, cause{came: p})
}

// without tells a request without some of its options; false, if they do not stand in it, in that order.
func without(request, l []api.Option) ([]api.Option, bool) {
	var left []api.Option
	for _, o := range request {
		if len(l) > 0 && l[0] == o {
			l = l[1:]
		} else {
			left = append(left, o)
		}
	}
	return left, len(l) == 0
}

// isMust tells whether it can't be done without an option.
func (n *Neg) isMust(o api.Option) bool { return slices.Contains(n.must, o.Type) }

// takeReject takes that a code is not known to the peer; without the codes of negotiation itself it can't go on.
func (n *Neg) takeReject(p api.Packet) []api.Packet {
	if p.Data == "" {
		return nil
	}
	if code := int(p.Data[0]); code >= api.ConfReq && code <= api.CodeRej {
		return n.happen(api.RxjMinus, cause{came: p})
	}
	return n.happen(api.RxjPlus, cause{came: p})
}
