package msg

import (
	"math"
	"slices"
	"strings"
	"testing"

	"tollgate/api"
	"tollgate/byhand"
)

// What the tests of this package lay by another way than the program's, and hold answers by.

const mostBytes = 1460 // MaxData - 40, written out so that a slip in the constant shows

// edges tells numbers around what two bytes hold.
func edges() []int {
	return []int{math.MinInt, -65536, -65535, -1, 0, 1, 255, 256, 258, 32768, 65535, 65536, 65537, math.MaxInt}
}

func fits(v int) bool { return v >= 0 && v < 65536 }

// some tells n bytes, no two neighbours alike.
func some(n int) string {
	b := make([]byte, n)
	for i := range b {
		b[i] = byte(i*7 + 3)
	}
	return string(b)
}

// load tells the bytes of a data message.
func load(tunnel, session int, data string) string {
	return "\x40\x02" + byhand.Words(8+len(data), tunnel, session) + data
}

// seqLoad tells the bytes of one that is numbered.
func seqLoad(tunnel, session, ns, nr int, data string) string {
	return "\x48\x02" + byhand.Words(12+len(data), tunnel, session, ns, nr) + data
}

// says lays another length into a message.
func says(b string, size int) string { return b[:2] + byhand.Word(size) + b[4:] }

// num tells a value of two bytes.
func num(kind, v int) api.Avp {
	return api.Avp{Must: true, Type: kind, Value: byhand.Word(v)}
}

// of tells a message of some values.
func of(l ...api.Avp) api.Ctl { return api.Ctl{Avps: l} }

// sameCtl tells whether messages are the same.
func sameCtl(a, b api.Ctl) bool {
	return a.Tunnel == b.Tunnel && a.Session == b.Session && a.Ns == b.Ns && a.Nr == b.Nr && slices.Equal(a.Avps, b.Avps)
}

// holdPut holds an answer of Put.
func holdPut(t *testing.T, what string, c api.Ctl, secret, want string, werr api.Errno) {
	t.Helper()
	if got, err := Put(c, secret); got != want || err != werr {
		t.Errorf("Put of %s = %.80x (%d bytes), %d, not %.80x (%d bytes), %d", what, got, len(got), err, want, len(want), werr)
	}
}

// holdGet holds an answer of Get; beside an error there is none.
func holdGet(t *testing.T, what, b, secret string, want api.Ctl, werr api.Errno) {
	t.Helper()
	if got, err := Get(b, secret); !sameCtl(got, want) || err != werr {
		t.Errorf("Get of %s = %.99v, %d, not %.99v, %d", what, got, err, want, werr)
	}
}

// holdPutLoad holds an answer of PutLoad.
func holdPutLoad(t *testing.T, what string, l api.Load, want string, werr api.Errno) {
	t.Helper()
	if got, err := PutLoad(l); got != want || err != werr {
		t.Errorf("PutLoad of %s = %.80x (%d bytes), %d, not %.80x (%d bytes), %d", what, got, len(got), err, want, len(want), werr)
	}
}

// holdGetLoad holds an answer of GetLoad; beside an error there is none.
func holdGetLoad(t *testing.T, what, b string, want api.Load, werr api.Errno) {
	t.Helper()
	if got, err := GetLoad(b); got != want || err != werr {
		t.Errorf("GetLoad of %s = %.99v, %d, not %.99v, %d", what, got, err, want, werr)
	}
}

// fillings tells what may stand behind a message.
func fillings() []string {
	return []string{"", "\x00", "f", "\xc8\x02\x00\x0c", strings.Repeat("\x00", 12), strings.Repeat("f", 5000), some(70000)}
}
