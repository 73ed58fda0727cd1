// Package byhand lays frames into bytes by another hand than the program's, and lets two ends hear each other, for its tests.
package byhand

import (
	"strings"

	"tollgate/api"
)

// Word tells a number in two bytes.
func Word(v int) string { return string([]byte{byte(v / 256), byte(v % 256)}) }

// Packet tells a packet's bytes.
func Packet(code, session int, data string) string {
	return "\x11" + string([]byte{byte(code)}) + Word(session) + Word(len(data)) + data
}

// Behind lays more bytes behind the data of a packet, and counts them in.
func Behind(b, more string) string {
	data := b[6:] + more
	return b[:4] + Word(len(data)) + data
}

// Tags tells the bytes of tags.
func Tags(tags []api.Tag) string {
	out := ""
	for _, t := range tags {
		out += Word(t.Type) + Word(len(t.Value)) + t.Value
	}
	return out
}

// Disc tells a frame of discovery.
func Disc(dst, src api.Mac, code, session int, tags ...api.Tag) api.Ether {
	return api.Ether{Dst: dst, Src: src, Type: api.TypeDisc, Data: Packet(code, session, Tags(tags))}
}

// Talk tells a frame of a session.
func Talk(dst, src api.Mac, session int, data string) api.Ether {
	return api.Ether{Dst: dst, Src: src, Type: api.TypeSession, Data: Packet(0, session, data)}
}

// Name tells a TagAc.
func Name(v string) api.Tag { return api.Tag{Type: api.TagAc, Value: v} }

// Service tells a TagService.
func Service(v string) api.Tag { return api.Tag{Type: api.TagService, Value: v} }

// Uniq tells a TagUniq.
func Uniq(v string) api.Tag { return api.Tag{Type: api.TagUniq, Value: v} }

// Cookie tells a TagCookie.
func Cookie(v string) api.Tag { return api.Tag{Type: api.TagCookie, Value: v} }

// Change makes another frame of a good one.
type Change struct {
	What string
	Make func(api.Ether) api.Ether
}

// NoPacket tells the changes that leave a frame without a packet, be it of discovery or of a session.
func NoPacket() []Change {
	return append(otherTypes(),
		data("no Data", func(b string) string { return "" }),
		data("less than a head", func(b string) string { return b[:5] }),
		data("fewer bytes than it says", func(b string) string { return Behind(b, "x")[:len(b)] }),
		data("another version", func(b string) string { return "\x12" + b[1:] }),
		data("no version", func(b string) string { return "\x00" + b[1:] }),
		data("more bytes than may be", func(b string) string { return Behind(b, "\x01\x05\x05\xff"+strings.Repeat("x", 1535)) }),
	)
}

// NoDisc tells the changes that leave a frame without a packet of discovery.
func NoDisc() []Change {
	return append(NoPacket(),
		data("a byte that is no tag", func(b string) string { return Behind(b, "\x01") }),
		data("a tag without a length", func(b string) string { return Behind(b, "\x01\x03\x00") }),
		data("a tag cut off", func(b string) string { return Behind(b, "\x01\x03\x00\x02u") }),
		data("more tags than may be", func(b string) string { return Behind(b, strings.Repeat("\x01\x05\x00\x00", 21)) }),
	)
}

// NoSession tells the changes that leave a frame without a packet of a session.
func NoSession() []Change {
	out := NoPacket()
	for _, code := range []byte{1, api.Padi, api.Padt, 255} {
		out = append(out, data("another code", func(b string) string { return b[:1] + string([]byte{code}) + b[2:] }))
	}
	return out
}

// otherTypes tells the changes of a frame's Type: what is of discovery is of a session then, and the other way.
func otherTypes() []Change {
	return []Change{
		kind("the other Type", func(n int) int { return api.TypeDisc + api.TypeSession - n }),
		kind("a Type of 0", func(n int) int { return 0 }),
		kind("a Type that is neither", func(n int) int { return n + 2 }),
		kind("a Type with higher bits", func(n int) int { return n + 65536 }),
		kind("a Type below 0", func(n int) int { return -n }),
	}
}

func kind(what string, change func(int) int) Change {
	return Change{what, func(f api.Ether) api.Ether { f.Type = change(f.Type); return f }}
}

func data(what string, change func(string) string) Change {
	return Change{what, func(f api.Ether) api.Ether { f.Data = change(f.Data); return f }}
}

// Filled tells the changes that say nothing: bytes behind the end of the tags, and behind the packet.
func Filled() []Change {
	var out []Change
	for _, end := range []string{"", "\x00\x00", "\x00\x00\x00\x00", "\x00\x00\x01\x01\x00\x00", "\x00\x00\x01"} {
		for _, filling := range []string{"", "\x01", strings.Repeat("\x00", 40), strings.Repeat("f", 2000)} {
			out = append(out, data("filling", func(b string) string { return Behind(b, end) + filling }))
		}
	}
	return out
}
