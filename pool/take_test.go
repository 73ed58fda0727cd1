package pool

import (
	"math"
	"testing"

	"tollgate/api"
)

// P1602.

func TestP1602Example(t *testing.T) {
	p := poolOf(t, api.Addr{10, 0, 0, 254}, 3)
	takes(t, p, key(1, 1), api.Addr{10, 0, 0, 254})
	takes(t, p, key(1, 2), api.Addr{10, 0, 0, 255})
	takes(t, p, key(1, 3), api.Addr{10, 0, 1, 0})
	gives(t, p, key(1, 1), api.OK)
	takes(t, p, key(2, 9), api.Addr{10, 0, 0, 254})
}

// Who has an address gets that one, however often it asks, and nothing else happens by it.
func TestP1602TakeAgain(t *testing.T) {
	for _, n := range []int{1, 2, 5, 256} {
		base := api.Addr{10, 0, 255, 250}
		p, all := poolOf(t, base, n), row(base, n)
		for i, k := range keys(n) {
			for range 3 {
				takes(t, p, k, all[i])
				has(t, p, k, all[i])
				free(t, p, n-1-i)
			}
			for j, earlier := range keys(i) {
				takes(t, p, earlier, all[j])
			}
			free(t, p, n-1-i)
		}
	}
}

// With all taken a new key gets none; those that have one keep it, and get it.
func TestP1602TakeOfAFullPool(t *testing.T) {
	for _, n := range []int{1, 2, 3, 255, 256} {
		base := api.Addr{9, 255, 255, 255}
		p, all := taken(t, base, n), row(base, n)
		for range 2 {
			for _, k := range []Key{{}, key(99, 1), key(1, 99), key(-1, -1), key(math.MinInt, math.MaxInt)} {
				isFull(t, p, k)
				hasNone(t, p, k)
				gives(t, p, k, api.ErrIndex)
				free(t, p, 0)
			}
			for i, k := range keys(n) {
				takes(t, p, k, all[i])
				has(t, p, k, all[i])
			}
		}
	}
}

// Who was refused gets the next one that is given back.
func TestP1602TakeBehindFull(t *testing.T) {
	base := api.Addr{10, 0, 0, 1}
	p, all := taken(t, base, 4), row(base, 4)
	isFull(t, p, key(9, 9))
	gives(t, p, keys(4)[2], api.OK)
	takes(t, p, key(9, 9), all[2])
	isFull(t, p, keys(4)[2])
	gives(t, p, keys(4)[2], api.ErrIndex)
	free(t, p, 0)
}

func TestP1602Give(t *testing.T) {
	base := api.Addr{10, 0, 0, 255}
	p, all := poolOf(t, base, 3), row(base, 3)
	a, b := key(1, 1), key(1, 2)
	gives(t, p, a, api.ErrIndex)
	free(t, p, 3)
	takes(t, p, a, all[0])
	gives(t, p, b, api.ErrIndex)
	has(t, p, a, all[0])
	free(t, p, 2)
	takes(t, p, b, all[1])
	gives(t, p, a, api.OK)
	for range 2 {
		hasNone(t, p, a)
		nobody(t, p, all[0])
		has(t, p, b, all[1])
		free(t, p, 2)
		gives(t, p, a, api.ErrIndex)
	}
	takes(t, p, a, all[0])
	gives(t, p, a, api.OK)
	gives(t, p, b, api.OK)
	free(t, p, 3)
	takes(t, p, b, all[0]) // nobody is remembered
	takes(t, p, a, all[1])
}

// orders tells every order in which some of n numbers may come, that of none too.
func orders(n int) [][]int {
	out := [][]int{{}}
	for at := 0; at < len(out); at++ {
		for v := range n {
			if !holds(out[at], v) {
				out = append(out, append(append([]int{}, out[at]...), v))
			}
		}
	}
	return out
}

func holds(l []int, v int) bool {
	for _, x := range l {
		if x == v {
			return true
		}
	}
	return false
}

// In whatever order addresses are given back, the least one is the next.
func TestP1602NextBehindGive(t *testing.T) {
	const n = 5
	base := api.Addr{10, 0, 0, 254}
	all, first := row(base, n), keys(n)
	tried := 0
	for _, order := range orders(n) {
		p := taken(t, base, n)
		for i, v := range order {
			gives(t, p, first[v], api.OK)
			free(t, p, i+1)
			hasNone(t, p, first[v])
			nobody(t, p, all[v])
		}
		news := 0
		for v := range n {
			if !holds(order, v) {
				has(t, p, first[v], all[v])
				continue
			}
			takes(t, p, key(100, news), all[v])
			has(t, p, key(100, news), all[v])
			news++
			free(t, p, len(order)-news)
		}
		isFull(t, p, key(100, news))
		tried++
	}
	if tried != 326 {
		t.Errorf("%d orders", tried)
	}
}

// One given back in the midst of a pool that is not full comes ahead of those that nobody had yet.
func TestP1602NextAheadOfNew(t *testing.T) {
	base := api.Addr{10, 0, 0, 1}
	p, all := poolOf(t, base, 256), row(base, 256)
	for i, k := range keys(200) {
		takes(t, p, k, all[i])
	}
	for _, i := range []int{150, 3, 199, 77, 0} {
		gives(t, p, keys(200)[i], api.OK)
	}
	for session, i := range []int{0, 3, 77, 150, 199, 200, 201} {
		takes(t, p, key(100, session), all[i])
	}
	gives(t, p, key(100, 6), api.OK)
	gives(t, p, keys(200)[1], api.OK)
	takes(t, p, key(101, 1), all[1])
	takes(t, p, key(101, 2), all[201])
	takes(t, p, key(101, 3), all[202])
}

// The least address is the least in the pool's order, by numbers, not by a byte.
func TestP1602NextAcrossACarry(t *testing.T) {
	for _, base := range []api.Addr{{10, 0, 0, 254}, {10, 0, 255, 254}, {10, 255, 255, 254}, {127, 255, 255, 254}} {
		p, all := taken(t, base, 4), row(base, 4)
		for i := 3; i >= 0; i-- {
			gives(t, p, keys(4)[i], api.OK)
		}
		for i := range 4 {
			takes(t, p, key(50, i), all[i])
		}
	}
}

// Addresses and keys of noughts are as any others.
func TestP1602Noughts(t *testing.T) {
	p := poolOf(t, bottom, 2)
	hasNone(t, p, Key{})
	nobody(t, p, bottom)
	takes(t, p, Key{}, bottom)
	has(t, p, Key{}, bottom)
	free(t, p, 1)
	takes(t, p, Key{}, bottom)
	takes(t, p, key(1, 0), api.Addr{0, 0, 0, 1})
	gives(t, p, Key{}, api.OK)
	hasNone(t, p, Key{})
	nobody(t, p, bottom)
	gives(t, p, Key{}, api.ErrIndex)
	takes(t, p, key(0, 1), bottom)
	has(t, p, key(0, 1), bottom)
}

// Of addresses that a pool has not, nobody has one: just ahead of it, just behind it, and far away.
func TestP1602WhoBeside(t *testing.T) {
	for _, n := range []int{1, 3, 256} {
		last := reckoned(top, 1-n)
		for _, base := range []api.Addr{bottom, {0, 0, 0, 1}, {10, 0, 0, 255}, {128, 0, 0, 0}, last} {
			p, all := taken(t, base, n), row(base, n)
			for i, k := range keys(n) {
				has(t, p, k, all[i])
			}
			nobody(t, p, back(base))
			nobody(t, p, onward(all[n-1]))
			for place := range 4 {
				for _, a := range []api.Addr{all[0], all[n-1]} {
					a[place] ^= 0x55
					if !within(all, a) {
						nobody(t, p, a)
					}
				}
			}
			for _, a := range places() {
				if !within(all, a) {
					nobody(t, p, a)
				}
			}
			free(t, p, 0)
		}
	}
}

func within(all []api.Addr, a api.Addr) bool {
	for _, x := range all {
		if x == a {
			return true
		}
	}
	return false
}

// far are keys of which many are alike in one number, or in both turned round.
func far() []Key {
	ends := []int{0, 1, 2, -1, -2, 256, 65536, 1 << 32, 1<<32 + 1, math.MinInt, math.MinInt + 1, math.MaxInt, math.MaxInt - 1}
	var l []Key
	for _, tunnel := range ends {
		for _, session := range ends {
			l = append(l, key(tunnel, session))
		}
	}
	return l
}

// Keys that are alike in one number are two.
func TestP1602Keys(t *testing.T) {
	base := api.Addr{10, 0, 0, 200}
	p, all := poolOf(t, base, 256), row(base, 256)
	for i, k := range far() {
		hasNone(t, p, k)
		gives(t, p, k, api.ErrIndex)
		takes(t, p, k, all[i])
	}
	for i, k := range far() {
		has(t, p, k, all[i])
		gives(t, p, k, api.OK)
		hasNone(t, p, k)
		for j, other := range far()[i+1:] {
			has(t, p, other, all[i+1+j])
		}
	}
	free(t, p, 256)
}

// Asking changes nothing.
func TestP1602AskingChangesNothing(t *testing.T) {
	base := api.Addr{10, 0, 0, 1}
	p, all := poolOf(t, base, 3), row(base, 3)
	for i, k := range keys(3) {
		for range 3 {
			for _, other := range far() {
				p.Has(other)
			}
			for _, a := range append(places(), all...) {
				p.Who(a)
			}
			free(t, p, 3-i)
		}
		takes(t, p, k, all[i])
	}
}

func TestP1602FreeUpAndDown(t *testing.T) {
	base := api.Addr{10, 0, 0, 1}
	p := taken(t, base, 256)
	for i, k := range keys(256) {
		free(t, p, i)
		gives(t, p, k, api.OK)
		free(t, p, i+1)
		gives(t, p, k, api.ErrIndex)
		free(t, p, i+1)
	}
	for i, k := range keys(256) {
		takes(t, p, k, reckoned(base, i))
		free(t, p, 255-i)
	}
}
