package host

import (
	"slices"

	"tollgate/api"
	"tollgate/ether"
	"tollgate/tag"
)

// Take takes a frame; what is sent.
func (h *Host) Take(f api.Ether) []api.Ether {
	if h.isNone() || f.Dst != h.mac {
		return nil
	}
	d, tags, ok := ether.GetDisc(f)
	if !ok {
		return nil
	}
	switch {
	case h.state == Asked && d.Code == api.Pado && d.Session == 0:
		return h.choose(f.Src, tags)
	case h.state == Chosen && d.Code == api.Pads && f.Src == h.conc && h.isMine(tags):
		h.settle(d.Session)
	case h.state == Live && d.Code == api.Padt && f.Src == h.conc && d.Session == h.session:
		h.phase = phase{state: Idle}
	}
	return nil
}

// choose takes the concentrator of a Pado, if that offers what was asked for.
func (h *Host) choose(conc api.Mac, offered []api.Tag) []api.Ether {
	if !slices.Contains(offered, h.wanted()) || !h.isMine(offered) {
		return nil
	}
	return h.ask(phase{state: Chosen, conc: conc, asked: h.padr(conc, offered)})
}

// settle takes the session of a Pads; 0 says that there is none to be had.
func (h *Host) settle(session int) {
	if session == 0 {
		h.phase = phase{state: Failed}
		return
	}
	h.phase = phase{state: Live, conc: h.conc, session: session}
}

// isMine tells whether tags answer this host, by its uniq; without one any do.
func (h *Host) isMine(tags []api.Tag) bool {
	uniq, _ := tag.Find(tags, api.TagUniq)
	return h.uniq == "" || uniq == h.uniq
}

// ask goes over into a phase that asks something, and asks it.
func (h *Host) ask(p phase) []api.Ether {
	h.phase = p
	return slices.Clone(p.asked)
}

func (h *Host) padi() []api.Ether {
	return ether.Disc(ether.Everyone(), h.mac, api.Padi, 0, append([]api.Tag{h.wanted()}, h.mark()...))
}

// padr tells the Padr that answers an offer. It always fits: its tags are some of the offer's.
func (h *Host) padr(conc api.Mac, offered []api.Tag) []api.Ether {
	tags := []api.Tag{h.wanted()}
	if cookie, n := tag.Find(offered, api.TagCookie); n > 0 {
		tags = append(tags, api.Tag{Type: api.TagCookie, Value: cookie})
	}
	return ether.Disc(conc, h.mac, api.Padr, 0, append(tags, h.mark()...))
}

// wanted tells the tag of the service.
func (h *Host) wanted() api.Tag { return api.Tag{Type: api.TagService, Value: h.service} }

// mark tells the tag by which answers to this host are known; none, if its uniq is empty.
func (h *Host) mark() []api.Tag {
	if h.uniq == "" {
		return nil
	}
	return []api.Tag{{Type: api.TagUniq, Value: h.uniq}}
}
