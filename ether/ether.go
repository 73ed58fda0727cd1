// Package ether lays packets of discovery and of sessions into frames, for both sides of it.
package ether

import (
	"tollgate/api"
	"tollgate/tag"
)

const codeSession = 0 // of a packet within a session, which has no code of discovery

// Everyone tells the card that a Padi goes to: who asks knows no concentrator yet.
func Everyone() api.Mac { return api.Mac{255, 255, 255, 255, 255, 255} }

// Disc tells a frame of discovery; none, if the packet can't hold the tags.
func Disc(to, from api.Mac, code, session int, tags []api.Tag) []api.Ether {
	data, err := tag.PutTags(tags)
	if err != api.OK {
		return nil
	}
	f, err := frame(to, from, api.TypeDisc, api.Disc{Code: code, Session: session, Data: data})
	if err != api.OK {
		return nil
	}
	return []api.Ether{f}
}

// GetDisc tells the packet of a frame of discovery, and its tags; false, if it is none.
func GetDisc(f api.Ether) (api.Disc, []api.Tag, bool) {
	if f.Type != api.TypeDisc {
		return api.Disc{}, nil, false
	}
	d, err := tag.Get(f.Data)
	if err != api.OK {
		return api.Disc{}, nil, false
	}
	tags, err := tag.GetTags(d.Data)
	if err != api.OK {
		return api.Disc{}, nil, false
	}
	return d, tags, true
}

// Session tells a session's frame.
func Session(to, from api.Mac, session int, data string) (api.Ether, api.Errno) {
	return frame(to, from, api.TypeSession, api.Disc{Code: codeSession, Session: session, Data: data})
}

// GetSession tells of a session's frame which session it is, and its data; false, if it is none.
func GetSession(f api.Ether) (int, string, bool) {
	if f.Type != api.TypeSession {
		return 0, "", false
	}
	d, err := tag.Get(f.Data)
	if err != api.OK || d.Code != codeSession {
		return 0, "", false
	}
	return d.Session, d.Data, true
}

func frame(to, from api.Mac, kind int, d api.Disc) (api.Ether, api.Errno) {
	data, err := tag.Put(d)
	if err != api.OK {
		return api.Ether{}, err
	}
	return api.Ether{Dst: to, Src: from, Type: kind, Data: data}, api.OK
}
