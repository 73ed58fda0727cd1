package avp

import (
	"math/rand/v2"
	"slices"
	"testing"

	"tollgate/api"
	"tollgate/byhand"
)

// P1804, and any lists and bytes beside a second way to lay them.

// laid tells what Put should, by a second way: each hidden value looks back for its vector.
func laid(l []api.Avp, secret string) (string, api.Errno) {
	if len(l) > 40 {
		return "", api.ErrLong
	}
	out := ""
	for i, a := range l {
		v := vectorAhead(l[:i])
		flags := 0
		if a.Must {
			flags = 32768
		}
		switch {
		case a.Vendor < 0 || a.Vendor > 65535 || a.Type < 0 || a.Type > 65535:
			return "", api.ErrArg
		case len(a.Value) > 1000:
			return "", api.ErrLong
		case !a.Hidden:
			out += byhand.Value(flags, a.Vendor, a.Type, a.Value)
		case secret == "":
			return "", api.ErrAuth
		case v < 0:
			return "", api.ErrMust
		default:
			out += byhand.Value(flags+16384, a.Vendor, a.Type, masked(a.Type, secret, l[v].Value, whole(a.Value)))
		}
	}
	if len(out) > mostRoom {
		return "", api.ErrLong
	}
	return out, api.OK
}

// vectorAhead tells the place of the last vector of a list; -1, if there is none.
func vectorAhead(l []api.Avp) int {
	for i := len(l) - 1; i >= 0; i-- {
		if l[i].Vendor == 0 && l[i].Type == 36 && !l[i].Hidden {
			return i
		}
	}
	return -1
}

// walk tells what Get should, by a second way: by places in the whole, not by what is left.
func walk(b, secret string) ([]api.Avp, api.Errno) {
	var l []api.Avp
	for i := 0; i < len(b); {
		left := len(b) - i
		if left < 6 {
			return nil, api.ErrShort
		}
		at := func(j int) int { return int(b[i+j])*256 + int(b[i+j+1]) }
		size := at(0) % 1024
		a := api.Avp{Must: b[i] >= 128, Hidden: b[i]%128 >= 64, Vendor: at(2), Type: at(4)}
		v := vectorAhead(l)
		switch {
		case b[i]&60 > 0, size < 6:
			return nil, api.ErrForm
		case left < size:
			return nil, api.ErrShort
		case size > 1008, size > 1006 && !a.Hidden, len(l) == 40:
			return nil, api.ErrLong
		case a.Hidden && secret == "":
			return nil, api.ErrAuth
		case a.Hidden && v < 0:
			return nil, api.ErrMust
		}
		a.Value = b[i+6 : i+size]
		if a.Hidden {
			shown := unmasked(a.Type, secret, l[v].Value, a.Value)
			if len(shown) < 2 || byhand.Word(len(shown)-2) != shown[:2] {
				return nil, api.ErrForm
			}
			a.Value = shown[2:]
		}
		l = append(l, a)
		i += size
	}
	return l, api.OK
}

// unmasked undoes masked, piece by piece: what masks a piece hangs on the hidden one ahead of it, so that masking nought bytes behind it tells the key.
func unmasked(kind int, secret, vector, value string) string {
	out := ""
	for at := 0; at < len(value); at += 16 {
		piece := value[at:min(at+16, len(value))]
		key := masked(kind, secret, vector, out+string(make([]byte, len(piece))))[at:]
		for i := range len(piece) {
			out += string([]byte{piece[i] ^ key[i]})
		}
	}
	return out
}

// anyValues tells some values: their numbers and bytes few, so that vectors and hidden ones come about.
func anyValues(r *rand.Rand, most, wide int) []api.Avp {
	l := make([]api.Avp, r.IntN(most))
	for i := range l {
		l[i] = api.Avp{
			Must:   r.IntN(2) == 0,
			Hidden: r.IntN(3) == 0,
			Vendor: max(0, r.IntN(4)-2),
			Type:   34 + r.IntN(4),
			Value:  some(r.IntN(wide)),
		}
	}
	if len(l) > 0 && r.IntN(4) > 0 {
		l[0] = vector(some(r.IntN(20)))
	}
	return l
}

// TestP1804SameSecret has that what is put comes back, whatever it is.
func TestP1804SameSecret(t *testing.T) {
	r := rand.New(rand.NewPCG(18, 4))
	closed, long := 0, 0
	for range 6000 {
		most, wide := 41, 30
		if r.IntN(3) == 0 {
			most, wide = 4, 1001
		}
		l, secret := anyValues(r, most, wide), some(1+r.IntN(30))
		for i := range l {
			l[i].Hidden = l[i].Hidden && vectorAhead(l[:i]) >= 0
			if i > 0 && l[i].Type != 36 {
				l[i].Vendor, l[i].Type = r.IntN(65536), r.IntN(65536)
			}
			if l[i].Hidden {
				closed++
			}
		}
		b, err := Put(l, secret)
		if err == api.ErrLong {
			long++
			continue
		}
		if err != api.OK {
			t.Fatalf("Put of %v = %d", l, err)
		}
		got, err := Get(b, secret)
		if !Same(got, l) || err != api.OK {
			t.Fatalf("Get of Put of %v = %v, %d", l, got, err)
		}
		if back, err := Put(got, secret); back != b || err != api.OK {
			t.Fatalf("Put of Get of %x = %x, %d", b, back, err)
		}
	}
	if closed < 1000 || long == 0 || long > 1500 {
		t.Errorf("%d hidden ones, %d lists too long", closed, long)
	}
}

// TestP1804EveryLength has each length of a Value, open and hidden, behind vectors of each length.
func TestP1804EveryLength(t *testing.T) {
	for n := range 1001 {
		l := []api.Avp{vector(some(n % 440)), {Must: true, Hidden: true, Vendor: n, Type: 65535 - n, Value: some(n)}}
		open := []api.Avp{{Vendor: 65535 - n, Type: n, Value: some(n)}}
		for _, l := range [][]api.Avp{l, open} {
			b, err := Put(l, "secret")
			if err != api.OK {
				t.Fatalf("Put of %d bytes = %d", n, err)
			}
			holdGet(t, "Put", b, "secret", l, api.OK)
		}
	}
}

// TestP1804OtherSecret has that hidden values are ErrForm, or others, with another secret.
func TestP1804OtherSecret(t *testing.T) {
	r := rand.New(rand.NewPCG(18, 40))
	forms := 0
	for range 30000 {
		l := []api.Avp{vector(some(r.IntN(20))), hidden(r.IntN(65536), some(1+r.IntN(40)))}
		secret, other := some(1+r.IntN(20)), "other"+some(r.IntN(1000))
		b, err := Put(l, secret)
		if err != api.OK {
			t.Fatalf("Put = %d", err)
		}
		got, err := Get(b, other)
		switch {
		case err == api.ErrForm && len(got) == 0:
			forms++
		case err == api.OK && !Same(got, l) && len(got) == 2 && Same(got[:1], l[:1]):
		default:
			t.Fatalf("Get of %x with another secret = %v, %d", b, got, err)
		}
		holdGet(t, "no secret", b, "", nil, api.ErrAuth)
	}
	if forms < 29900 { // about one in 65,536 shows the right length, and other bytes
		t.Errorf("%d were ErrForm", forms)
	}
}

// TestP1804OtherValue has another secret whose digest happens to show the right length, but other bytes.
func TestP1804OtherValue(t *testing.T) {
	l := []api.Avp{vector("v"), hidden(7, "name")}
	b, err := Put(l, "s")
	if err != api.OK {
		t.Fatalf("Put = %d", err)
	}
	for i := range 1 << 20 {
		other := "t" + byhand.Word(i/65536) + byhand.Word(i%65536)
		shown := unmasked(7, other, "v", b[len(b)-6:])
		if shown[:2] != "\x00\x04" {
			continue
		}
		holdGet(t, "another secret", b, other, []api.Avp{vector("v"), hidden(7, shown[2:])}, api.OK)
		if shown[2:] == "name" {
			t.Errorf("%x shows the same", other)
		}
		return
	}
	t.Error("no secret shows the right length")
}

func TestP1801AnyValues(t *testing.T) {
	r := rand.New(rand.NewPCG(18, 1))
	seen := map[api.Errno]int{}
	for range 20000 {
		l := anyValues(r, 4+38*r.IntN(2), 2+40*r.IntN(2))
		for i := range l {
			switch r.IntN(60) {
			case 0:
				l[i].Value = some(990 + r.IntN(20))
			case 1:
				l[i].Type = 65530 + r.IntN(10)
			case 2:
				l[i].Vendor = r.IntN(4) - 2
			}
		}
		secret := some(r.IntN(4))
		want, werr := laid(l, secret)
		if got, err := Put(l, secret); got != want || err != werr {
			t.Fatalf("Put(%v, %x) = %x, %d, not %x, %d", l, secret, got, err, want, werr)
		}
		seen[werr]++
	}
	for _, e := range []api.Errno{api.OK, api.ErrArg, api.ErrLong, api.ErrAuth, api.ErrMust} {
		if seen[e] < 50 {
			t.Errorf("%d lists were answered by %d", seen[e], e)
		}
	}
}

// TestP1802AnyBytes has bytes that were put and then spoilt, cut or lengthened.
func TestP1802AnyBytes(t *testing.T) {
	r := rand.New(rand.NewPCG(18, 2))
	seen := map[api.Errno]int{}
	for range 30000 {
		b := ""
		for range 1 + 24*r.IntN(2) {
			more, _ := laid(anyValues(r, 5, 20), "s")
			b += more
		}
		spoilt := []byte(b)
		for range r.IntN(3) {
			if len(spoilt) > 0 {
				spoilt[r.IntN(len(spoilt))] ^= 1 << r.IntN(8)
			}
		}
		switch r.IntN(8) {
		case 0, 1:
			spoilt = spoilt[:r.IntN(1+len(spoilt))]
		case 2:
			spoilt = append(spoilt, some(r.IntN(9))...)
		}
		secret := []string{"", "t", "s", "s"}[r.IntN(4)]
		want, werr := walk(string(spoilt), secret)
		got, err := Get(string(spoilt), secret)
		if !slices.Equal(got, want) || err != werr {
			t.Fatalf("Get(%x, %q) = %v, %d, not %v, %d", spoilt, secret, got, err, want, werr)
		}
		seen[err]++
	}
	for _, e := range []api.Errno{api.OK, api.ErrForm, api.ErrShort, api.ErrLong, api.ErrAuth, api.ErrMust} {
		if seen[e] < 50 {
			t.Errorf("%d bytes were answered by %d", seen[e], e)
		}
	}
}
