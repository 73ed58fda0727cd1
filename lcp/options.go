package lcp

import (
	"tollgate/api"
	"tollgate/opts"
)

// Types of options, and how many bytes each has.
const (
	optMru    = 1
	optAuth   = 3
	optMagic  = 5
	mruWide   = 2
	protoWide = 2
	magicWide = 4
)

const (
	leastMru    = 64
	usualMru    = 1492 // a frame's room less the heads of PPPoE and PPP; it holds where nothing is asked for
	mostPeerMru = 65535
	mostMagic   = 1<<32 - 1
	chapByMd5   = 5
)

// Options tells what is asked for.
func Options(c Config) []api.Option {
	var out []api.Option
	if c.Mru != usualMru {
		out = append(out, api.Option{Type: optMru, Value: put(c.Mru, mruWide)})
	}
	if c.Auth != 0 {
		out = append(out, api.Option{Type: optAuth, Value: authValue(c.Auth)})
	}
	if c.Magic != 0 {
		out = append(out, api.Option{Type: optMagic, Value: put(c.Magic, magicWide)})
	}
	return out
}

// put tells the lowest n bytes of v, the highest first; the conversion cuts off what is above each of them.
func put(v, n int) string {
	b := make([]byte, n)
	for i := range b {
		b[i] = byte(v >> (8 * (n - 1 - i)))
	}
	return string(b)
}

// authValue tells the value by which a protocol is asked for; empty of what is none.
func authValue(proto int) string {
	switch proto {
	case api.ProtoPap:
		return put(proto, protoWide)
	case api.ProtoChap:
		return put(proto<<8|chapByMd5, protoWide+1)
	}
	return ""
}

// way is what a value says of authentication: so many bytes, as a number.
type way struct{ wide, number int }

// kindOf tells the protocol that a value asks for; 0, if there is none of it.
func kindOf(value string) int {
	kinds := map[way]int{
		{protoWide, api.ProtoPap}:                     api.ProtoPap,
		{protoWide + 1, api.ProtoChap<<8 | chapByMd5}: api.ProtoChap,
	}
	number, _ := opts.Value(value)
	return kinds[way{len(value), number}]
}

// authOf tells the protocol that options ask for.
func authOf(l []api.Option) int {
	value, _ := opts.Find(l, optAuth)
	return kindOf(value)
}

func mruRule(most int) api.Rule {
	return api.Rule{Type: optMru, Len: mruWide, Min: leastMru, Max: most, Suggest: put(usualMru, mruWide)}
}

// authRule tells the rule of a protocol, which nothing but its own value fits.
func authRule(proto int) api.Rule {
	value := authValue(proto)
	number, _ := opts.Value(value)
	return api.Rule{Type: optAuth, Len: len(value), Min: number, Max: number, Suggest: value}
}

func magicRule() api.Rule {
	return api.Rule{Type: optMagic, Len: magicWide, Min: 1, Max: mostMagic, Suggest: put(1, magicWide)}
}

// ownRules tells what the peer's naks may change; authentication is not among it.
func ownRules() []api.Rule { return []api.Rule{mruRule(usualMru), magicRule()} }
