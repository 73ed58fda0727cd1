package avp

import (
	"strings"

	"tollgate/api"
	"tollgate/wire"
)

const (
	wordLen = 2
	headLen = 3 * wordLen // the shared word, Vendor, Type
)

// The shared word has two flags, four bits that must be 0, and how many bytes the value has with its head.
const (
	mustAt   = 15
	hiddenAt = 14
	sizeBits = 10
	sizeMask = 1<<sizeBits - 1
	freeMask = 15
)

// share tells the shared word.
func share(must, hidden bool, size int) int {
	v := size
	if must {
		v |= 1 << mustAt
	}
	if hidden {
		v |= 1 << hiddenAt
	}
	return v
}

// cut tells the value at the front of b as it stands there, one that is Hidden not yet shown, and what is behind it.
func cut(b string) (api.Avp, string, api.Errno) {
	if len(b) < headLen {
		return api.Avp{}, "", api.ErrShort
	}
	first := word(b, 0)
	size := first & sizeMask
	if first>>sizeBits&freeMask != 0 || size < headLen {
		return api.Avp{}, "", api.ErrForm
	}
	if size > len(b) {
		return api.Avp{}, "", api.ErrShort
	}
	a := api.Avp{
		Must:   first>>mustAt&1 == 1,
		Hidden: first>>hiddenAt&1 == 1,
		Vendor: word(b, wordLen),
		Type:   word(b, 2*wordLen),
		Value:  strings.Clone(b[headLen:size]),
	}
	if len(a.Value) > mostLaid(a.Hidden) {
		return api.Avp{}, "", api.ErrLong
	}
	return a, b[size:], api.OK
}

// mostLaid tells how many bytes may stand behind a head: a hidden Value has its length ahead of it.
func mostLaid(hidden bool) int {
	if hidden {
		return mostValue + wordLen
	}
	return mostValue
}

// words lays numbers in two bytes each; ErrArg, if one needs more.
func words(l ...int) (string, api.Errno) {
	all := ""
	for _, v := range l {
		one, err := wire.Put(v, wordLen)
		if err != api.OK {
			return "", err
		}
		all += one
	}
	return all, api.OK
}

// word tells the number of the two bytes at a place; the caller sees to it that they are there.
func word(b string, at int) int {
	v, _ := wire.Get(b, at, wordLen)
	return v
}
