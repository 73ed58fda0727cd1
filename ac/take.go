package ac

import (
	"slices"

	"tollgate/api"
	"tollgate/cookie"
	"tollgate/ether"
	"tollgate/tag"
)

// Take takes a frame; what is sent.
func (c *Conc) Take(f api.Ether, time int) []api.Ether {
	if c.isNone() || f.Src == c.mac {
		return nil
	}
	d, asked, ok := ether.GetDisc(f)
	if !ok {
		return nil
	}
	switch {
	case d.Code == api.Padi && f.Dst == ether.Everyone() && d.Session == 0:
		return c.offer(f.Src, asked, time)
	case d.Code == api.Padr && f.Dst == c.mac && d.Session == 0:
		return c.grant(f.Src, asked, time)
	case d.Code == api.Padt && f.Dst == c.mac && d.Session != 0:
		c.end(Id{Mac: f.Src, Session: d.Session})
	}
	return nil
}

// offer answers a Padi.
func (c *Conc) offer(to api.Mac, asked []api.Tag, time int) []api.Ether {
	service, n := tag.Find(asked, api.TagService)
	if n != 1 || !c.serves(service) {
		return nil
	}
	tags := []api.Tag{{Type: api.TagAc, Value: c.name}, {Type: api.TagService, Value: service}}
	if service == "" {
		for _, s := range c.services {
			tags = append(tags, api.Tag{Type: api.TagService, Value: s})
		}
	}
	tags = append(tags, api.Tag{Type: api.TagCookie, Value: cookie.Make(c.secret, to, service, time)})
	return ether.Disc(to, c.mac, api.Pado, 0, append(tags, echo(asked)...))
}

// grant answers a Padr.
func (c *Conc) grant(to api.Mac, asked []api.Tag, time int) []api.Ether {
	service, n := tag.Find(asked, api.TagService)
	proof, proofs := tag.Find(asked, api.TagCookie)
	if n != 1 || proofs == 0 || !cookie.Check(c.secret, to, service, proof, time) {
		return nil
	}
	uniq, _ := tag.Find(asked, api.TagUniq)
	session, why := c.admit(to, service, uniq)
	tags := []api.Tag{{Type: api.TagService, Value: service}}
	if session == 0 {
		tags = append(tags, api.Tag{Type: why})
	}
	return ether.Disc(to, c.mac, api.Pads, session, append(tags, echo(asked)...))
}

// admit tells the number of the session that a card has or gets, or 0, and the tag that says why.
func (c *Conc) admit(m api.Mac, service, uniq string) (int, int) {
	if !c.serves(service) {
		return 0, api.TagNoServ
	}
	// Ahead of the look for room: who asks again, because the answer was lost, takes no more room.
	if session := c.unused(m, uniq); session != 0 {
		return session, 0
	}
	if !c.hasRoom(m) {
		return 0, api.TagSystem
	}
	return c.begin(m, uniq), 0
}

// serves tells whether a service may be asked for; the empty one means any.
func (c *Conc) serves(service string) bool {
	return service == "" || slices.Contains(c.services, service)
}

// echo tells the first TagUniq of some tags, to be said back; none, if there is none.
func echo(asked []api.Tag) []api.Tag {
	uniq, n := tag.Find(asked, api.TagUniq)
	if n == 0 {
		return nil
	}
	return []api.Tag{{Type: api.TagUniq, Value: uniq}}
}
