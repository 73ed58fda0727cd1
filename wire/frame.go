package wire

import (
	"strings"

	"tollgate/api"
)

const (
	macLen    = 6
	etherHead = 2*macLen + 2
	pppHead   = 2
	gramHead  = 6
	mostPpp   = api.MaxData - 8 // room for the heads of PPPoE and of PPP in a frame
)

// PutEther tells a frame as bytes.
func PutEther(f api.Ether) (string, api.Errno) {
	if !isWord(f.Type) {
		return "", api.ErrArg
	}
	if len(f.Data) > api.MaxData {
		return "", api.ErrLong
	}
	b := make([]byte, 0, etherHead+len(f.Data))
	b = append(b, f.Dst[:]...)
	b = append(b, f.Src[:]...)
	b = lay(b, f.Type, 2)
	b = append(b, f.Data...)
	return string(b), api.OK
}

// GetEther tells the frame of some bytes.
func GetEther(b string) (api.Ether, api.Errno) {
	if len(b) < etherHead {
		return api.Ether{}, api.ErrShort
	}
	if len(b) > api.MaxData+etherHead {
		return api.Ether{}, api.ErrLong
	}
	f := api.Ether{
		Type: lift(b[2*macLen : etherHead]),
		Data: strings.Clone(b[etherHead:]),
	}
	copy(f.Dst[:], b[:macLen])
	copy(f.Src[:], b[macLen:2*macLen])
	return f, api.OK
}

// PutPpp puts a protocol ahead of some bytes.
func PutPpp(proto int, data string) (string, api.Errno) {
	if !isWord(proto) || !isProto(proto) {
		return "", api.ErrArg
	}
	if len(data) > mostPpp {
		return "", api.ErrLong
	}
	b := lay(make([]byte, 0, pppHead+len(data)), proto, 2)
	return string(append(b, data...)), api.OK
}

// GetPpp tells the protocol, and what stands behind it.
func GetPpp(b string) (int, string, api.Errno) {
	if len(b) < pppHead {
		return 0, "", api.ErrShort
	}
	proto := lift(b[:pppHead])
	if !isProto(proto) {
		return 0, "", api.ErrForm
	}
	if len(b) > mostPpp+pppHead {
		return 0, "", api.ErrLong
	}
	return proto, strings.Clone(b[pppHead:]), api.OK
}

// isProto tells whether a number of two bytes is odd and its higher byte even: by that PPP knows where a protocol ends.
func isProto(proto int) bool { return proto&1 == 1 && proto>>8&1 == 0 }

// PutGram tells a datagram as bytes.
func PutGram(d api.Datagram) (string, api.Errno) {
	if !isWord(d.From) || !isWord(d.To) {
		return "", api.ErrArg
	}
	if len(d.Data) > api.MaxData {
		return "", api.ErrLong
	}
	b := make([]byte, 0, gramHead+len(d.Data))
	b = lay(b, d.From, 2)
	b = lay(b, d.To, 2)
	b = lay(b, len(d.Data), 2)
	return Seal(string(append(b, d.Data...))), api.OK
}

// GetGram tells the datagram of some bytes.
func GetGram(b string) (api.Datagram, api.Errno) {
	in, e := Unseal(b)
	if e != api.OK {
		return api.Datagram{}, e
	}
	if len(in) < gramHead {
		return api.Datagram{}, api.ErrShort
	}
	n := lift(in[4:gramHead])
	if n > api.MaxData {
		return api.Datagram{}, api.ErrLong
	}
	if n != len(in)-gramHead {
		return api.Datagram{}, api.ErrForm
	}
	return api.Datagram{From: lift(in[:2]), To: lift(in[2:4]), Data: strings.Clone(in[gramHead:])}, api.OK
}
