package ac

import (
	"slices"

	"tollgate/api"
	"tollgate/cookie"
	"tollgate/tag"
)

// everyone is the card that a Padi goes to: who asks knows no concentrator yet.
var everyone = api.Mac{255, 255, 255, 255, 255, 255}

// Take takes a frame; what is sent.
func (c *Conc) Take(f api.Ether, time int) []api.Ether {
	if c.isNone() || f.Type != api.TypeDisc || f.Src == c.mac {
		return nil
	}
	d, err := tag.Get(f.Data)
	if err != api.OK {
		return nil
	}
	asked, err := tag.GetTags(d.Data)
	if err != api.OK {
		return nil
	}
	switch {
	case d.Code == api.Padi && f.Dst == everyone && d.Session == 0:
		return c.offer(f.Src, asked, time)
	case d.Code == api.Padr && f.Dst == c.mac && d.Session == 0:
		return c.grant(f.Src, asked, time)
	case d.Code == api.Padt && f.Dst == c.mac && d.Session != 0:
		c.end(Id{Mac: f.Src, Session: d.Session})
	}
	return nil
}

// offer answers a Padi.
func (c *Conc) offer(to api.Mac, asked []api.Tag, time int) []api.Ether {
	service, n := tag.Find(asked, api.TagService)
	if n != 1 || !c.serves(service) {
		return nil
	}
	tags := []api.Tag{{Type: api.TagAc, Value: c.name}, {Type: api.TagService, Value: service}}
	if service == "" {
		for _, s := range c.services {
			tags = append(tags, api.Tag{Type: api.TagService, Value: s})
		}
	}
	tags = append(tags, api.Tag{Type: api.TagCookie, Value: cookie.Make(c.secret, to, service, time)})
	return c.send(to, api.Pado, 0, append(tags, echo(asked)...))
}

// grant answers a Padr.
func (c *Conc) grant(to api.Mac, asked []api.Tag, time int) []api.Ether {
	service, n := tag.Find(asked, api.TagService)
	proof, proofs := tag.Find(asked, api.TagCookie)
	if n != 1 || proofs == 0 || !cookie.Check(c.secret, to, service, proof, time) {
		return nil
	}
	uniq, _ := tag.Find(asked, api.TagUniq)
	session, why := c.admit(to, service, uniq)
	tags := []api.Tag{{Type: api.TagService, Value: service}}
	if session == 0 {
		tags = append(tags, api.Tag{Type: why})
	}
	return c.send(to, api.Pads, session, append(tags, echo(asked)...))
}

// admit tells the number of the session that a card has or gets, or 0, and the tag that says why.
func (c *Conc) admit(m api.Mac, service, uniq string) (int, int) {
	if !c.serves(service) {
		return 0, api.TagNoServ
	}
	// Ahead of the look for room: who asks again, because the answer was lost, takes no more room.
	if session := c.unused(m, uniq); session != 0 {
		return session, 0
	}
	if !c.hasRoom(m) {
		return 0, api.TagSystem
	}
	return c.begin(m, uniq), 0
}

// serves tells whether a service may be asked for; the empty one means any.
func (c *Conc) serves(service string) bool {
	return service == "" || slices.Contains(c.services, service)
}

// echo tells the first TagUniq of some tags, to be said back; none, if there is none.
func echo(asked []api.Tag) []api.Tag {
	uniq, n := tag.Find(asked, api.TagUniq)
	if n == 0 {
		return nil
	}
	return []api.Tag{{Type: api.TagUniq, Value: uniq}}
}

// send tells a frame of discovery; none, if the packet can't hold the tags.
func (c *Conc) send(to api.Mac, code, session int, tags []api.Tag) []api.Ether {
	data, err := tag.PutTags(tags)
	if err != api.OK {
		return nil
	}
	f, err := c.frame(to, api.TypeDisc, api.Disc{Code: code, Session: session, Data: data})
	if err != api.OK {
		return nil
	}
	return []api.Ether{f}
}

// frame tells the frame of a packet.
func (c *Conc) frame(to api.Mac, kind int, d api.Disc) (api.Ether, api.Errno) {
	data, err := tag.Put(d)
	if err != api.OK {
		return api.Ether{}, err
	}
	return api.Ether{Dst: to, Src: c.mac, Type: kind, Data: data}, api.OK
}
