package pool

import (
	"math"
	"testing"

	"tollgate/api"
)

// P1601: New; and what the tests of all promises share.

func key(tunnel, session int) Key { return Key{Tunnel: tunnel, Session: session} }

// keys are as many as are wanted, no two alike.
func keys(n int) []Key {
	l := make([]Key, n)
	for i := range l {
		l[i] = key(1+i/16, 1+i%16)
	}
	return l
}

// row tells the addresses of a pool.
func row(base api.Addr, n int) []api.Addr {
	l := make([]api.Addr, n)
	for i := range l {
		l[i] = base
		base = onward(base)
	}
	return l
}

func poolOf(t *testing.T, base api.Addr, n int) *Pool {
	t.Helper()
	p, err := New(base, n)
	if p == nil || err != api.OK {
		t.Fatalf("New(%v, %d) = %v, %d", base, n, p, err)
	}
	return p
}

// taken makes a pool of which every address is taken, by keys(n) in their order.
func taken(t *testing.T, base api.Addr, n int) *Pool {
	t.Helper()
	p := poolOf(t, base, n)
	all := row(base, n)
	for i, k := range keys(n) {
		free(t, p, n-i)
		takes(t, p, k, all[i])
	}
	free(t, p, 0)
	return p
}

func takes(t *testing.T, p *Pool, k Key, want api.Addr) {
	t.Helper()
	if got, err := p.Take(k); got != want || err != api.OK {
		t.Fatalf("Take(%v) = %v, %d, not %v", k, got, err, want)
	}
}

func isFull(t *testing.T, p *Pool, k Key) {
	t.Helper()
	if got, err := p.Take(k); got != (api.Addr{}) || err != api.ErrFull {
		t.Fatalf("Take(%v) = %v, %d, not ErrFull", k, got, err)
	}
}

func gives(t *testing.T, p *Pool, k Key, want api.Errno) {
	t.Helper()
	if got := p.Give(k); got != want {
		t.Fatalf("Give(%v) = %d, not %d", k, got, want)
	}
}

// has looks that a key and an address belong together, asked from both sides.
func has(t *testing.T, p *Pool, k Key, a api.Addr) {
	t.Helper()
	if got, is := p.Has(k); got != a || !is {
		t.Fatalf("Has(%v) = %v, %t, not %v", k, got, is, a)
	}
	if got, is := p.Who(a); got != k || !is {
		t.Fatalf("Who(%v) = %v, %t, not %v", a, got, is, k)
	}
}

func hasNone(t *testing.T, p *Pool, k Key) {
	t.Helper()
	if got, is := p.Has(k); got != (api.Addr{}) || is {
		t.Fatalf("Has(%v) = %v, %t", k, got, is)
	}
}

func nobody(t *testing.T, p *Pool, a api.Addr) {
	t.Helper()
	if got, is := p.Who(a); got != (Key{}) || is {
		t.Fatalf("Who(%v) = %v, %t", a, got, is)
	}
}

func free(t *testing.T, p *Pool, want int) {
	t.Helper()
	if got := p.Free(); got != want {
		t.Fatalf("Free() = %d, not %d", got, want)
	}
}

func refused(t *testing.T, base api.Addr, n int) {
	t.Helper()
	if p, err := New(base, n); p != nil || err != api.ErrArg {
		t.Errorf("New(%v, %d) = %v, %d, not ErrArg", base, n, p, err)
	}
}

// allFree looks that a pool is just so many addresses, which nobody has yet.
func allFree(t *testing.T, base api.Addr, n int) {
	t.Helper()
	p := poolOf(t, base, n)
	all := row(base, n)
	free(t, p, n)
	for i, k := range keys(n) {
		hasNone(t, p, k)
		nobody(t, p, all[i])
	}
	for i, k := range keys(n) {
		takes(t, p, k, all[i])
	}
	isFull(t, p, key(0, 0))
}

func TestP1601NewByN(t *testing.T) {
	for _, base := range []api.Addr{bottom, {10, 0, 0, 254}, {127, 255, 255, 200}, {255, 255, 255, 0}} {
		for _, n := range []int{math.MinInt, math.MinInt + 1, -1 << 32, 1 - 1<<32, -257, -256, -255, -2, -1, 0} {
			refused(t, base, n)
		}
		for _, n := range []int{1, 2, 3, 128, 254, 255, 256} {
			allFree(t, base, n)
		}
		for _, n := range []int{257, 258, 512, 65536, 1<<31 - 1, 1 << 31, 1<<32 - 1, 1 << 32, 1<<32 + 1, 1<<32 + 256, 1 << 40, math.MaxInt - 1, math.MaxInt} {
			refused(t, base, n)
		}
	}
}

// The last address that a pool may have is the last one that there is.
func TestP1601NewByTheEnd(t *testing.T) {
	for n := 1; n <= 256; n++ {
		last := top
		for range n - 1 {
			last = back(last)
		}
		allFree(t, last, n)
		allFree(t, back(last), n)
		if n > 1 {
			refused(t, onward(last), n)
			refused(t, top, n)
		}
	}
	for n := -3; n < 300; n++ {
		if n != 1 {
			refused(t, top, n)
		}
	}
}

// The end is the end of all addresses, not that of a byte.
func TestP1601NewAcrossCarries(t *testing.T) {
	for _, base := range []api.Addr{{0, 0, 0, 255}, {0, 0, 255, 255}, {0, 255, 255, 255}, {127, 255, 255, 255}, {254, 255, 255, 255}, {255, 255, 254, 255}} {
		for _, n := range []int{1, 2, 255, 256} {
			allFree(t, base, n)
		}
	}
}

func TestP1601NewEachItsOwn(t *testing.T) {
	base, k := api.Addr{10, 0, 0, 1}, key(1, 1)
	a, b := poolOf(t, base, 2), poolOf(t, base, 2)
	takes(t, a, key(7, 7), base)
	takes(t, a, k, onward(base))
	free(t, b, 2)
	hasNone(t, b, k)
	nobody(t, b, base)
	takes(t, b, k, base)
	gives(t, a, k, api.OK)
	has(t, b, k, base)
	free(t, a, 1)
	free(t, b, 1)
}
