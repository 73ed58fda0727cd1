package ipcp

import "tollgate/api"

// Types of options, each of which has an address.
const (
	optAddress = 3
	optFirst   = 129 // name server
	optSecond  = 131
)

const addrWide = 4

// isNought tells whether an address says that there is none.
func isNought(a api.Addr) bool { return a == api.Addr{} }

func option(kind int, a api.Addr) api.Option { return api.Option{Type: kind, Value: bytesOf(a)} }

// rule tells the rule of the addresses from least to most; what is named instead is the least.
func rule(kind int, least, most api.Addr) api.Rule {
	return api.Rule{Type: kind, Len: addrWide, Min: number(least), Max: number(most), Suggest: bytesOf(least)}
}

func bytesOf(a api.Addr) string { return string(a[:]) }

// number tells an address as a number, its first byte being the highest; as bytes they would have no room for the shifts.
func number(a api.Addr) int {
	return int(a[0])<<24 | int(a[1])<<16 | int(a[2])<<8 | int(a[3])
}
