package msg

import (
	"encoding/binary"
	"math/rand/v2"
	"slices"
	"strings"
	"testing"

	"tollgate/api"
	"tollgate/avp"
	"tollgate/byhand"
)

// P1905, and any messages and bytes beside a second way to read and to judge them.

// anyWord tells a number of two bytes, often one at its edges.
func anyWord(r *rand.Rand) int {
	if r.IntN(3) == 0 {
		return []int{0, 1, 255, 256, 65535}[r.IntN(5)]
	}
	return r.IntN(65536)
}

// anyBytes tells fewer than n bytes.
func anyBytes(r *rand.Rand, n int) string {
	b := make([]byte, r.IntN(n))
	for i := range b {
		b[i] = byte(r.IntN(256))
	}
	return string(b)
}

// anyAvps tells values that avp.Put takes; hidden ones only behind a vector.
func anyAvps(r *rand.Rand) []api.Avp {
	most, wide, left := 41, 40, 1488
	if r.IntN(3) == 0 {
		most, wide = 4, 1001
	}
	var l []api.Avp
	hasVector := false
	for range r.IntN(most) {
		a := api.Avp{Must: r.IntN(2) == 0, Vendor: max(0, r.IntN(4)-2), Type: r.IntN(40), Value: anyBytes(r, wide)}
		if r.IntN(4) == 0 {
			a.Vendor, a.Type = anyWord(r), anyWord(r)
		}
		if r.IntN(4) == 0 {
			a.Vendor, a.Type = 0, 36
		}
		a.Hidden = hasVector && r.IntN(2) == 0
		if left -= 8 + len(a.Value); left < 0 {
			break
		}
		hasVector = hasVector || a.Vendor == 0 && a.Type == 36 && !a.Hidden
		l = append(l, a)
	}
	return l
}

// TestP1905Control has that what is put comes back, whatever it is, and whatever is behind it.
func TestP1905Control(t *testing.T) {
	r := rand.New(rand.NewPCG(19, 5))
	closed := 0
	for range 6000 {
		c := api.Ctl{Tunnel: anyWord(r), Session: anyWord(r), Ns: anyWord(r), Nr: anyWord(r), Avps: anyAvps(r)}
		for _, a := range c.Avps {
			if a.Hidden {
				closed++
			}
		}
		secret := "s" + anyBytes(r, 30)
		b, err := Put(c, secret)
		if err != api.OK || !IsCtl(b) || len(b) > 1500 {
			t.Fatalf("Put of %v = %x, %d", c, b, err)
		}
		for _, behind := range []string{"", anyBytes(r, 40)} {
			got, err := Get(b+behind, secret)
			if !sameCtl(got, c) || err != api.OK {
				t.Fatalf("Get of Put of %v = %v, %d", c, got, err)
			}
			if back, err := Put(got, secret); back != b || err != api.OK {
				t.Fatalf("Put of Get of %x = %x, %d", b, back, err)
			}
		}
		if got, err := GetLoad(b); got != (api.Load{}) || err != api.ErrForm {
			t.Fatalf("GetLoad of %x = %v, %d", b, got, err)
		}
	}
	if closed < 5000 {
		t.Errorf("%d hidden ones", closed)
	}
}

func TestP1905Load(t *testing.T) {
	r := rand.New(rand.NewPCG(19, 50))
	for range 20000 {
		l := api.Load{Tunnel: anyWord(r), Session: anyWord(r), Data: anyBytes(r, 30)}
		if r.IntN(9) == 0 {
			l.Data = anyBytes(r, 1461)
		}
		if r.IntN(2) == 0 {
			l.Seq, l.Ns, l.Nr = true, anyWord(r), anyWord(r)
		}
		b, err := PutLoad(l)
		if err != api.OK || IsCtl(b) || len(b) > 1472 {
			t.Fatalf("PutLoad of %v = %x, %d", l, b, err)
		}
		for _, behind := range []string{"", anyBytes(r, 40)} {
			if got, err := GetLoad(b + behind); got != l || err != api.OK {
				t.Fatalf("GetLoad of PutLoad of %v = %v, %d", l, got, err)
			}
		}
		want := api.ErrForm
		if len(b) < 12 {
			want = api.ErrShort
		}
		if got, err := Get(b, "s"); !sameCtl(got, api.Ctl{}) || err != want {
			t.Fatalf("Get of %x = %v, %d", b, got, err)
		}
	}
}

// TestP1905EveryLength has data of each length.
func TestP1905EveryLength(t *testing.T) {
	for n := range mostBytes + 1 {
		for _, l := range []api.Load{{Tunnel: n, Session: 65535 - n, Data: some(n)}, {Seq: true, Ns: n, Nr: 65535 - n, Data: some(n)}} {
			b, err := PutLoad(l)
			if err != api.OK {
				t.Fatalf("PutLoad of %d bytes = %d", n, err)
			}
			holdGetLoad(t, "PutLoad", b, l, api.OK)
		}
	}
}

// read tells what Get should, by a second way.
func read(b, secret string) (api.Ctl, api.Errno) {
	if len(b) < 12 {
		return api.Ctl{}, api.ErrShort
	}
	at := func(i int) int { return int(binary.BigEndian.Uint16([]byte(b)[2*i:])) }
	switch size := at(1); {
	case !strings.HasPrefix(b, "\xc8\x02"):
		return api.Ctl{}, api.ErrForm
	case size > len(b):
		return api.Ctl{}, api.ErrShort
	case size < 12:
		return api.Ctl{}, api.ErrForm
	default:
		l, err := avp.Get(b[12:size], secret)
		if err != api.OK {
			return api.Ctl{}, err
		}
		return api.Ctl{Tunnel: at(2), Session: at(3), Ns: at(4), Nr: at(5), Avps: l}, api.OK
	}
}

// readLoad tells what GetLoad should.
func readLoad(b string) (api.Load, api.Errno) {
	if len(b) < 8 {
		return api.Load{}, api.ErrShort
	}
	at := func(i int) int { return int(binary.BigEndian.Uint16([]byte(b)[2*i:])) }
	seq, head := strings.HasPrefix(b, "\x48\x02"), 8
	if seq {
		head = 12
	}
	switch size := at(1); {
	case !seq && !strings.HasPrefix(b, "\x40\x02"):
		return api.Load{}, api.ErrForm
	case size > len(b):
		return api.Load{}, api.ErrShort
	case size < head:
		return api.Load{}, api.ErrForm
	case size-head > 1460:
		return api.Load{}, api.ErrLong
	case seq:
		return api.Load{Tunnel: at(2), Session: at(3), Seq: true, Ns: at(4), Nr: at(5), Data: b[12:size]}, api.OK
	default:
		return api.Load{Tunnel: at(2), Session: at(3), Data: b[8:size]}, api.OK
	}
}

// spoil turns bits of some bytes round, cuts or lengthens them; heads more often than what is behind.
func spoil(r *rand.Rand, b string) string {
	out := []byte(b)
	for range r.IntN(3) {
		if len(out) > 0 {
			out[r.IntN(min(len(out), []int{4, 20, 2000}[r.IntN(3)]))] ^= 1 << r.IntN(8)
		}
	}
	switch r.IntN(6) {
	case 0:
		out = out[:r.IntN(len(out)+1)]
	case 1:
		out = append(out, anyBytes(r, 20)...)
	case 2:
		out = out[:min(len(out), r.IntN(16))]
	case 3:
		if len(out) > 4 {
			out[2], out[3] = 0, byte(r.IntN(40))
		}
	}
	return string(out)
}

// TestP1901AnyBytes has messages that were put and then spoilt, and bytes that never were one.
func TestP1901AnyBytes(t *testing.T) {
	r := rand.New(rand.NewPCG(19, 1))
	seen := map[api.Errno]int{}
	for range 40000 {
		b, _ := Put(api.Ctl{Tunnel: anyWord(r), Session: anyWord(r), Ns: anyWord(r), Nr: anyWord(r), Avps: anyAvps(r)}, "s")
		switch r.IntN(20) {
		case 0:
			b = anyBytes(r, 40)
		case 1:
			b = byhand.Ctl(1, 2, 3, 4, strings.Repeat(byhand.Value(0, 0, 1, ""), 39+r.IntN(4)))
		}
		b = spoil(r, b)
		secret := []string{"", "t", "s", "s"}[r.IntN(4)]
		want, werr := read(b, secret)
		got, err := Get(b, secret)
		if !sameCtl(got, want) || err != werr {
			t.Fatalf("Get(%x, %q) = %v, %d, not %v, %d", b, secret, got, err, want, werr)
		}
		if got := IsCtl(b); got != (b != "" && b[0] > 127) {
			t.Fatalf("IsCtl(%x) = %v", b, got)
		}
		Check(got)
		seen[err]++
	}
	for _, e := range []api.Errno{api.OK, api.ErrForm, api.ErrShort, api.ErrLong, api.ErrAuth, api.ErrMust} {
		if seen[e] < 20 {
			t.Errorf("%d bytes were answered by %d", seen[e], e)
		}
	}
}

func TestP1902AnyBytes(t *testing.T) {
	r := rand.New(rand.NewPCG(19, 2))
	seen := map[api.Errno]int{}
	for range 40000 {
		l := api.Load{Tunnel: anyWord(r), Session: anyWord(r), Seq: r.IntN(2) == 0, Data: anyBytes(r, 20)}
		b, _ := PutLoad(l)
		switch r.IntN(20) {
		case 0:
			b = anyBytes(r, 40)
		case 1:
			b = load(1, 2, anyBytes(r, 3000))
		}
		b = spoil(r, b)
		want, werr := readLoad(b)
		if got, err := GetLoad(b); got != want || err != werr {
			t.Fatalf("GetLoad(%x) = %v, %d, not %v, %d", b, got, err, want, werr)
		}
		seen[werr]++
	}
	for _, e := range []api.Errno{api.OK, api.ErrForm, api.ErrShort, api.ErrLong} {
		if seen[e] < 20 {
			t.Errorf("%d bytes were answered by %d", seen[e], e)
		}
	}
}

// judged tells what Check should, by a second way: each value's fault is told apart, and the first one is taken.
func judged(l []api.Avp) api.Errno {
	if len(l) == 0 {
		return api.OK
	}
	k := l[0]
	kind := -1
	if k.Vendor == 0 && k.Type == 0 && !k.Hidden && len(k.Value) == 2 {
		kind = int(k.Value[0])*256 + int(k.Value[1])
	}
	left, there := needed()[kind]
	if !there {
		return api.ErrMust
	}
	known, faults := sizes(), []api.Errno{}
	for _, a := range l[1:] {
		size, ok := known[a.Type]
		switch ok = ok && a.Vendor == 0; {
		case !ok && a.Must:
			faults = append(faults, api.ErrMust)
		case ok && (a.Type == 0 || size >= 0 && size != len(a.Value)):
			faults = append(faults, api.ErrForm)
		case ok:
			left = slices.DeleteFunc(left, func(need int) bool { return need == a.Type })
		}
	}
	if len(left) > 0 {
		faults = append(faults, api.ErrMust)
	}
	return append(faults, api.OK)[0]
}

// TestP1904AnyValues has messages near to whole ones.
func TestP1904AnyValues(t *testing.T) {
	r := rand.New(rand.NewPCG(19, 4))
	seen := map[api.Errno]int{}
	for range 60000 {
		l := full(r.IntN(19))
		for range r.IntN(4) {
			l = append(l, good(r.IntN(41)))
		}
		r.Shuffle(len(l)-1, func(i, j int) { l[i+1], l[j+1] = l[j+1], l[i+1] })
		for range r.IntN(3) {
			if len(l) == 0 {
				break
			}
			at := r.IntN(len(l))
			switch r.IntN(7) {
			case 0:
				l = slices.Delete(l, at, at+1)
			case 1:
				l[at].Must = !l[at].Must
			case 2:
				l[at].Hidden = !l[at].Hidden
			case 3:
				l[at].Vendor = 9
			case 4:
				l[at].Type = r.IntN(50) - 3
			case 5:
				l[at].Value = some(r.IntN(20))
			case 6:
				l[at], l[0] = l[0], l[at]
			}
		}
		want := judged(l)
		before := slices.Clone(l)
		if got := Check(of(l...)); got != want {
			t.Fatalf("Check(%v) = %d, not %d", l, got, want)
		}
		if !slices.Equal(l, before) {
			t.Fatalf("Check made %v of %v", l, before)
		}
		seen[want]++
	}
	for _, e := range []api.Errno{api.OK, api.ErrForm, api.ErrMust} {
		if seen[e] < 2000 {
			t.Errorf("%d messages were answered by %d", seen[e], e)
		}
	}
}
