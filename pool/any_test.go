package pool

import (
	"math"
	"math/rand/v2"
	"testing"

	"tollgate/api"
)

// Any calls in any order beside a pool that is kept as plainly as can be; behind each step P1603.

// slot is an address of the plain pool.
type slot struct {
	addr  api.Addr
	taken bool
	by    Key
}

type plain []slot

func plainOf(base api.Addr, n int) plain {
	var p plain
	for _, a := range row(base, n) {
		p = append(p, slot{addr: a})
	}
	return p
}

// find tells where the first slot is of which something holds; -1: nowhere.
func (p plain) find(holds func(slot) bool) int {
	for i, s := range p {
		if holds(s) {
			return i
		}
	}
	return -1
}

func (p plain) of(k Key) int {
	return p.find(func(s slot) bool { return s.taken && s.by == k })
}

func (p plain) take(k Key) (api.Addr, api.Errno) {
	at := p.of(k)
	if at < 0 {
		at = p.find(func(s slot) bool { return !s.taken })
	}
	if at < 0 {
		return api.Addr{}, api.ErrFull
	}
	p[at].taken, p[at].by = true, k
	return p[at].addr, api.OK
}

func (p plain) give(k Key) api.Errno {
	at := p.of(k)
	if at < 0 {
		return api.ErrIndex
	}
	p[at].taken = false
	return api.OK
}

func (p plain) free() int {
	n := 0
	for _, s := range p {
		if !s.taken {
			n++
		}
	}
	return n
}

// alike looks at all that may be asked of both pools.
func alike(t *testing.T, p *Pool, want plain, all []Key) {
	t.Helper()
	free(t, p, want.free())
	for _, s := range want {
		if s.taken {
			has(t, p, s.by, s.addr)
		} else {
			nobody(t, p, s.addr)
		}
	}
	for _, k := range all {
		if want.of(k) < 0 {
			hasNone(t, p, k)
		}
	}
	nobody(t, p, back(want[0].addr))
	nobody(t, p, onward(want[len(want)-1].addr))
}

// apart looks that no two keys have one address, and that what is had and what is free is all that there is.
func apart(t *testing.T, p *Pool, n int, all []Key) {
	t.Helper()
	by := map[api.Addr]Key{}
	for _, k := range all {
		a, is := p.Has(k)
		if !is {
			continue
		}
		if other, twice := by[a]; twice {
			t.Fatalf("%v and %v both have %v", k, other, a)
		}
		by[a] = k
	}
	if len(by)+p.Free() != n {
		t.Fatalf("%d are had, %d free, of %d", len(by), p.Free(), n)
	}
}

// anyStep does the same to both pools; what was answered.
func anyStep(t *testing.T, r *rand.Rand, p *Pool, want plain, k Key, giving int) api.Errno {
	t.Helper()
	if r.IntN(100) < giving {
		err := want.give(k)
		gives(t, p, k, err)
		return err
	}
	a, err := want.take(k)
	if got, e := p.Take(k); got != a || e != err {
		t.Fatalf("Take(%v) = %v, %d, not %v, %d", k, got, e, a, err)
	}
	return err
}

func TestP1603AnySteps(t *testing.T) {
	r := rand.New(rand.NewPCG(16, 3))
	all := append(keys(6), Key{}, key(1, -1), key(-1, 1), key(math.MinInt, 1), key(1, math.MaxInt), key(math.MaxInt, math.MinInt))
	seen := map[api.Errno]int{}
	for round := range 120 {
		n := []int{1, 2, 5, 11, 12, 40}[round%6]
		base := []api.Addr{bottom, {10, 0, 0, 254}, {10, 255, 255, 253}, reckoned(top, 1-n)}[round%4]
		p, want := poolOf(t, base, n), plainOf(base, n)
		for range 200 {
			seen[anyStep(t, r, p, want, all[r.IntN(len(all))], []int{30, 50, 70}[round%3])]++
			alike(t, p, want, all)
			apart(t, p, n, all)
		}
	}
	for _, err := range []api.Errno{api.OK, api.ErrIndex, api.ErrFull} {
		if seen[err] < 500 {
			t.Errorf("the answer %d was seen %d times", err, seen[err])
		}
	}
}

// A great pool, now full, now almost empty.
func TestP1603AnyStepsOfAGreatPool(t *testing.T) {
	r := rand.New(rand.NewPCG(16, 4))
	base, all := api.Addr{10, 0, 255, 130}, keys(300)
	p, want := poolOf(t, base, 256), plainOf(base, 256)
	seen := map[api.Errno]int{}
	for step := range 4000 {
		giving := []int{3, 90}[step/1000%2]
		seen[anyStep(t, r, p, want, all[r.IntN(300)], giving)]++
		apart(t, p, 256, all)
		if step%50 == 0 {
			alike(t, p, want, all)
		}
	}
	for _, err := range []api.Errno{api.OK, api.ErrIndex, api.ErrFull} {
		if seen[err] < 50 {
			t.Errorf("the answer %d was seen %d times", err, seen[err])
		}
	}
}

// Every row of a few calls by a few keys.
func TestP1603EveryShortRow(t *testing.T) {
	all := []Key{key(1, 1), key(1, 2), key(2, 1)}
	const calls, long, rows = 6, 6, 46656 // three keys take, or give
	for n := 1; n <= 3; n++ {
		for code := range rows {
			p, want, left := poolOf(t, bottom, n), plainOf(bottom, n), code
			for range long {
				k := all[left%calls/2]
				if left%2 == 0 {
					a, err := want.take(k)
					if got, e := p.Take(k); got != a || e != err {
						t.Fatalf("row %d: Take(%v) = %v, %d, not %v, %d", code, k, got, e, a, err)
					}
				} else {
					gives(t, p, k, want.give(k))
				}
				apart(t, p, n, all)
				left /= calls
			}
			alike(t, p, want, all)
		}
	}
}
