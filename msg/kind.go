package msg

import (
	"tollgate/api"
	"tollgate/avp"
)

// What Kind says where it says no kind.
const (
	noKind   = -1
	noValues = -2
)

// Kind tells what a control message is.
func Kind(c api.Ctl) int {
	if len(c.Avps) == 0 {
		return noValues
	}
	first := c.Avps[0]
	if first.Vendor != 0 || first.Type != api.AvpKind || first.Hidden || len(first.Value) != wordLen {
		return noKind
	}
	return word(first.Value, 0)
}

// Needs tells what a message must have.
func Needs(kind int) []int {
	switch kind {
	case api.Sccrq, api.Sccrp:
		return []int{api.AvpVersion, api.AvpFraming, api.AvpName, api.AvpTunnel}
	case api.Stopccn:
		return []int{api.AvpTunnel, api.AvpResult}
	case api.Icrq, api.Ocrq:
		return []int{api.AvpSession, api.AvpSerial}
	case api.Icrp, api.Ocrp:
		return []int{api.AvpSession}
	case api.Iccn, api.Occn:
		return []int{api.AvpSpeed, api.AvpLink}
	case api.Cdn:
		return []int{api.AvpResult, api.AvpSession}
	case api.Wen:
		return []int{api.AvpErrors}
	case api.Sli:
		return []int{api.AvpMap}
	}
	return nil
}

// isKind tells whether there is such a kind: two there are that need nothing.
func isKind(kind int) bool {
	return kind == api.Scccn || kind == api.Hello || len(Needs(kind)) > 0
}

// Make makes a message's values.
func Make(kind int, l ...api.Avp) []api.Avp {
	return append([]api.Avp{avp.Num(api.AvpKind, kind, wordLen)}, l...)
}
