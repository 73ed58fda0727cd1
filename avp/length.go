package avp

import "tollgate/api"

// What Length says where it says no number of bytes.
const (
	anyLength = -1
	unknown   = -2
)

// name is what a type is known by.
type name struct{ vendor, kind int }

// Length tells how long a type's value must be.
func Length(kind int) int {
	if n, known := lengths()[name{0, kind}]; known {
		return n
	}
	return unknown
}

// lengths tells how long the values of the known types must be.
func lengths() map[name]int {
	return map[name]int{
		{0, api.AvpSequence}: 0,

		{0, api.AvpKind}:     2,
		{0, api.AvpVersion}:  2,
		{0, api.AvpTunnel}:   2,
		{0, api.AvpWindow}:   2,
		{0, api.AvpSession}:  2,
		{0, api.AvpAuthType}: 2,
		{0, api.AvpAuthId}:   2,

		{0, api.AvpFraming}: 4,
		{0, api.AvpSerial}:  4,
		{0, api.AvpLink}:    4,
		{0, api.AvpSpeed}:   4,

		{0, api.AvpTie}:      8,
		{0, api.AvpResponse}: 16,

		{0, api.AvpResult}:    anyLength,
		{0, api.AvpName}:      anyLength,
		{0, api.AvpChallenge}: anyLength,
		{0, api.AvpFirstRx}:   anyLength,
		{0, api.AvpLastTx}:    anyLength,
		{0, api.AvpLastRx}:    anyLength,
		{0, api.AvpAuthName}:  anyLength,
		{0, api.AvpAuthValue}: anyLength,
		{0, api.AvpAuthReply}: anyLength,
		{0, api.AvpErrors}:    anyLength,
		{0, api.AvpMap}:       anyLength,
		{0, api.AvpVector}:    anyLength,
	}
}
