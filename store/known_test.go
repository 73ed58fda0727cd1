package store

import (
	"fmt"
	"math"
	"testing"

	"tollgate/api"
)

// P1503 and P1504.

// Asking changes nothing, and knows nobody.
func TestP1503WrongOfNobody(t *testing.T) {
	for _, n := range []int{0, 1, 99, 100} {
		s := filled(t, n)
		for _, full := range append([]string{"", "@", "n", "n0@x", "nobody"}, longs()...) {
			wrong(t, "nobody", s, full, 0)
			is(t, "nobody", s.Pap(full, "p", 0), api.ErrAuth)
			wrong(t, "nobody", s, full, 0)
		}
		has(t, "nobody", s, n)
	}
}

func TestP1503WrongByAnySpelling(t *testing.T) {
	s := storeOf(t, 5, 10, "a")
	for n := range 5 {
		wrong(t, "a", s, "a", n)
		wrong(t, "a@", s, "a@", n)
		for _, other := range []string{"a@@", "@a", "a@x", "A"} {
			wrong(t, "another name", s, other, 0)
		}
		is(t, "a wrong try", s.Pap([]string{"a", "a@"}[n%2], "q", n), api.ErrAuth)
	}
	for range 3 {
		wrong(t, "a", s, "a", 5)
	}
}

// The count stays at its end; trying goes on as ever. (It is set by hand: no test can try so often.)
func TestP1503WrongAtMost(t *testing.T) {
	for _, w := range ways() {
		s := storeOf(t, 3, 10, "a")
		s.known[Who{Name: "a"}] = record{secret: "p", wrong: math.MaxInt32 - 2, last: -10}
		for n, want := range []int{math.MaxInt32 - 1, math.MaxInt32, math.MaxInt32, math.MaxInt32} {
			is(t, w.what, w.try(s, "a", "q", 10*n), api.ErrAuth)
			wrong(t, w.what, s, "a", want)
			is(t, "shut", w.try(s, "a", "p", 10*n+9), api.ErrState)
		}
		is(t, "calm", w.try(s, "a", "p", 40), api.OK)
		wrong(t, "calm", s, "a", 0)
		is(t, "anew", w.try(s, "a", "q", 41), api.ErrAuth)
		wrong(t, "anew", s, "a", 1)
	}
}

func TestP1503Len(t *testing.T) {
	s := filled(t, 100)
	for i := range 100 {
		full := fmt.Sprint("n", i)
		has(t, "ahead of it", s, 100-i)
		is(t, "a wrong try", s.Pap(full, "q", 0), api.ErrAuth)
		has(t, "a try", s, 100-i)
		is(t, "another secret", s.Set(full+"@", "q"), api.OK)
		has(t, "another secret", s, 100-i)
		for range 2 {
			is(t, "Set away", s.Set(full, ""), api.OK)
			has(t, "Set away", s, 99-i)
			if i == 0 {
				break // a full store would refuse one more name
			}
		}
	}
	for range 3 {
		has(t, "none is left", s, 0)
	}
}

// A zero Store and New(0, 1), step by step.
func TestP1504Zero(t *testing.T) {
	zero, made := new(Store), store(t, 0, 1)
	both := func(what string, call func(s *Store) int) {
		t.Helper()
		if got, want := call(zero), call(made); got != want {
			t.Fatalf("%s: %d, not %d", what, got, want)
		}
		if zero.Len() != made.Len() || zero.Wrong("a") != made.Wrong("a") || zero.Wrong("") != made.Wrong("") {
			t.Fatalf("%s: %#v, not %#v", what, zero, made)
		}
	}
	try := func(what, full, secret string, time int) {
		t.Helper()
		for _, w := range ways()[:2] {
			both(what, func(s *Store) int { return int(w.try(s, full, secret, time)) })
		}
	}
	set := func(what, full, secret string) {
		t.Helper()
		both(what, func(s *Store) int { return int(s.Set(full, secret)) })
	}
	try("no name", "a", "", 0)
	set("nobody away", "a", "")
	set("long", run(61, 0), "")
	set("new", "a", "p")
	for n := range 300 {
		try("wrong", "a", "q", n%3)
	}
	wrong(t, "wrong", zero, "a", 600)
	try("right", "a", "p", math.MinInt)
	wrong(t, "right", zero, "a", 0)
	for i := range 102 {
		set("more", fmt.Sprint(i), "p")
		set("more, spelt otherwise", fmt.Sprint(i, "@"), "q")
	}
	has(t, "more", zero, 100)
	is(t, "one more", zero.Set("", "p"), api.ErrFull)
	set("away", "a@", "")
	has(t, "away", zero, 99)
}

// A zero Store that a struct holds, or a variable, is one.
func TestP1504ZeroAsAValue(t *testing.T) {
	var in struct{ s Store }
	has(t, "zero", &in.s, 0)
	wrong(t, "zero", &in.s, "a", 0)
	is(t, "zero", in.s.Pap("a", "", 0), api.ErrAuth)
	is(t, "zero", in.s.Chap("a", 0, "", "", 0), api.ErrAuth)
	is(t, "zero", in.s.Set("a", "p"), api.OK)
	is(t, "zero", in.s.Pap("a", "p", 0), api.OK)
}

func TestP1504Nil(t *testing.T) {
	var s *Store
	for range 2 {
		for _, full := range append(texts(), longs()...) {
			for _, secret := range append(texts(), longs()...) {
				is(t, "Set", s.Set(full, secret), api.ErrArg)
				for _, time := range []int{math.MinInt, 0, math.MaxInt} {
					is(t, "Pap", s.Pap(full, secret, time), api.ErrArg)
					is(t, "Chap", s.Chap(full, time, "v", secret, time), api.ErrArg)
				}
			}
			wrong(t, "nil", s, full, 0)
		}
		has(t, "nil", s, 0)
	}
}
