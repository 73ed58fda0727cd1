package opts

import (
	"slices"
	"strings"

	"tollgate/api"
)

const (
	optHead   = 2
	mostValue = mostByte - optHead // so that the length, head and all, fits into its byte
	mostWide  = 7                  // bytes whose number is an int, and not below 0
)

// PutOptions tells options as bytes.
func PutOptions(l []api.Option) (string, api.Errno) {
	if len(l) > api.MaxOptions {
		return "", api.ErrLong
	}
	var b []byte
	for _, o := range l {
		if o.Type == 0 || !isByte(o.Type) || len(o.Value) > mostValue {
			return "", api.ErrArg
		}
		b = append(b, byte(o.Type), byte(optHead+len(o.Value)))
		b = append(b, o.Value...)
	}
	return string(b), api.OK
}

// GetOptions tells the options of some bytes.
func GetOptions(b string) ([]api.Option, api.Errno) {
	var l []api.Option
	for b != "" {
		if len(b) < optHead {
			return nil, api.ErrShort
		}
		kind, n := int(b[0]), int(b[1])
		if kind == 0 || n < optHead {
			return nil, api.ErrForm
		}
		if n > len(b) {
			return nil, api.ErrShort
		}
		if len(l) == api.MaxOptions {
			return nil, api.ErrLong
		}
		l = append(l, api.Option{Type: kind, Value: strings.Clone(b[optHead:n])})
		b = b[n:]
	}
	return l, api.OK
}

// Same tells whether options are the same.
func Same(a, b []api.Option) bool { return slices.Equal(a, b) }

// Find tells the first option of a type.
func Find(l []api.Option, kind int) (string, bool) {
	for _, o := range l {
		if o.Type == kind {
			return strings.Clone(o.Value), true
		}
	}
	return "", false
}

// Value tells the number of a value.
func Value(s string) (int, bool) {
	if len(s) > mostWide {
		return 0, false
	}
	return number(s), true
}
