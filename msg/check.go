package msg

import (
	"tollgate/api"
	"tollgate/avp"
)

// What avp.Length says where it says no number of bytes.
const (
	anyLength = -1
	unknown   = -2
)

// Check tells whether a message is whole.
func Check(c api.Ctl) api.Errno {
	if len(c.Avps) == 0 {
		return api.OK
	}
	kind := Kind(c)
	if !isKind(kind) {
		return api.ErrMust
	}
	for _, a := range c.Avps[1:] {
		if err := checkOne(a); err != api.OK {
			return err
		}
	}
	for _, need := range Needs(kind) {
		if _, found := avp.Find(c.Avps, need); !found {
			return api.ErrMust
		}
	}
	return api.OK
}

// checkOne tells whether a value may stand behind the first one.
func checkOne(a api.Avp) api.Errno {
	size := lengthOf(a)
	switch {
	case size == unknown && a.Must:
		return api.ErrMust
	case size == unknown:
		return api.OK
	case size != anyLength && size != len(a.Value):
		return api.ErrForm
	case a.Type == api.AvpKind:
		return api.ErrForm
	}
	return api.OK
}

// lengthOf tells how long a value must be; all of another Vendor are unknown.
func lengthOf(a api.Avp) int {
	if a.Vendor != 0 {
		return unknown
	}
	return avp.Length(a.Type)
}
