package store

import (
	"fmt"
	"strings"
	"testing"

	"tollgate/api"
)

// P1501, and what the tests of all promises share.

// run tells a text of so many bytes, no sign '@' among them, from a byte on.
func run(n int, from byte) string {
	b := make([]byte, n)
	for i := range b {
		b[i] = from + byte(i)*7
		if b[i] == '@' {
			b[i] = 'x'
		}
	}
	return string(b)
}

// texts are those that have room; the first one alone is empty.
func texts() []string {
	return []string{"", "a", "\x00", "\xff", "name", "n\u00e4me", "\xc3", "a b", run(59, 0), run(60, 0), run(60, 200)}
}

// longs are those that have none.
func longs() []string {
	return []string{run(61, 0), run(62, 1), run(256, 2), run(256+60, 3), run(65536, 4), strings.Repeat("@", 61), run(60, 0) + "@", "@" + run(60, 0)}
}

func store(t *testing.T, limit, calm int) *Store {
	t.Helper()
	s, err := New(limit, calm)
	if s == nil || err != api.OK {
		t.Fatalf("New(%d, %d) = %v, %d", limit, calm, s, err)
	}
	return s
}

// storeOf makes a store in which a name has the secret p.
func storeOf(t *testing.T, limit, calm int, full string) *Store {
	t.Helper()
	s := store(t, limit, calm)
	is(t, "Set", s.Set(full, "p"), api.OK)
	return s
}

// filled makes a store of so many names, n0 and on, with the secrets s0 and on.
func filled(t *testing.T, n int) *Store {
	t.Helper()
	s := store(t, 3, 10)
	for i := range n {
		is(t, "Set", s.Set(fmt.Sprint("n", i), fmt.Sprint("s", i)), api.OK)
		has(t, "Set", s, i+1)
	}
	return s
}

func is(t *testing.T, what string, got, want api.Errno) {
	t.Helper()
	if got != want {
		t.Fatalf("%s: %d, not %d", what, got, want)
	}
}

func has(t *testing.T, what string, s *Store, names int) {
	t.Helper()
	if got := s.Len(); got != names {
		t.Fatalf("%s: Len() = %d, not %d", what, got, names)
	}
}

func wrong(t *testing.T, what string, s *Store, full string, times int) {
	t.Helper()
	if got := s.Wrong(full); got != times {
		t.Fatalf("%s: Wrong(%q) = %d, not %d", what, full, got, times)
	}
}

// secretIs looks at a secret by right and wrong tries, never two wrong ones in a row; the last one is right.
func secretIs(t *testing.T, s *Store, full, secret string) {
	t.Helper()
	is(t, "the secret", s.Pap(full, secret, 0), api.OK)
	for _, other := range []string{"", secret + "\x00", secret[1:]} {
		is(t, "another secret", s.Pap(full, other, 0), api.ErrAuth)
		is(t, "the secret", s.Pap(full, secret, 0), api.OK)
	}
}

func TestP1501Split(t *testing.T) {
	for _, x := range []struct {
		full string
		want Who
	}{
		{"", Who{}},
		{"a", Who{Name: "a"}},
		{"a@x", Who{"a", "x"}},
		{"a@b@c", Who{"a@b", "c"}},
		{"a@b@c@d", Who{"a@b@c", "d"}},
		{"@", Who{}},
		{"@x", Who{Realm: "x"}},
		{"a@", Who{Name: "a"}},
		{"@@", Who{Name: "@"}},
		{"a@@", Who{Name: "a@"}},
		{"@@x", Who{"@", "x"}},
		{"@a@", Who{Name: "@a"}},
		{"@a@x", Who{"@a", "x"}},
		{"a@@x", Who{"a@", "x"}},
		{"a@b@", Who{Name: "a@b"}},
		{"\x00@\xff", Who{"\x00", "\xff"}},
		{"n\u00e4me@\u20ac", Who{"n\u00e4me", "\u20ac"}},
		{"a\uff20b", Who{Name: "a\uff20b"}}, // a wide sign is another one
		{"a b@ x", Who{"a b", " x"}},
		{run(60, 0) + "@" + run(500, 1), Who{run(60, 0), run(500, 1)}},
	} {
		if got := Split(x.full); got != x.want {
			t.Errorf("Split(%q) = %#v", x.full, got)
		}
	}
}

// shorts are all texts of up to some letters.
func shorts(most int) []string {
	l := []string{""}
	for from := 0; most > 0; most-- {
		to := len(l)
		for _, s := range l[from:to] {
			l = append(l, s+"a", s+"b", s+"@")
		}
		from = to
	}
	return l
}

func TestP1501SplitEveryShortText(t *testing.T) {
	for _, full := range shorts(7) {
		parts := strings.Split(full, "@")
		last := len(parts) - 1
		want := Who{Name: full}
		if last > 0 {
			want = Who{strings.Join(parts[:last], "@"), parts[last]}
		}
		if got := Split(full); got != want {
			t.Errorf("Split(%q) = %#v", full, got)
		}
	}
}

func TestP1501New(t *testing.T) {
	ends := []int{-1 << 63, -1 << 32, -2, -1, 0, 1, 2, 99, 100, 101, 102, 999, 1000, 1001, 1 << 32, 1<<32 + 1, 1<<63 - 1}
	for _, limit := range ends {
		for _, calm := range ends {
			s, err := New(limit, calm)
			if limit < 0 || limit > 100 || calm < 1 || calm > 1000 {
				if s != nil || err != api.ErrArg {
					t.Errorf("New(%d, %d) = %v, %d", limit, calm, s, err)
				}
				continue
			}
			if s == nil || err != api.OK {
				t.Fatalf("New(%d, %d) = %v, %d", limit, calm, s, err)
			}
			has(t, "New", s, 0)
			wrong(t, "New", s, "", 0)
			is(t, "no secrets", s.Pap("", "", 0), api.ErrAuth)
		}
	}
}

// Two stores have nothing in common.
func TestP1501NewEachItsOwn(t *testing.T) {
	a, b := storeOf(t, 1, 1, "u"), store(t, 1, 1)
	has(t, "the other one", b, 0)
	is(t, "the other one", b.Set("u", "q"), api.OK)
	secretIs(t, storeOf(t, 0, 1, "u"), "u", "p")
	is(t, "the first one", a.Pap("u", "p", 0), api.OK)
	is(t, "the other one", b.Pap("u", "p", 0), api.ErrAuth)
	wrong(t, "the first one", a, "u", 0)
	wrong(t, "the other one", b, "u", 1)
}

func TestP1501SetAndAsk(t *testing.T) {
	for _, full := range texts() {
		for _, secret := range texts()[1:] {
			s := store(t, 0, 1)
			is(t, "Set", s.Set(full, secret), api.OK)
			has(t, "Set", s, 1)
			secretIs(t, s, full, secret)
		}
	}
}

func TestP1501SetEverySize(t *testing.T) {
	for name := range 130 {
		for size := range 130 {
			s, full, secret := store(t, 0, 1), run(name, 3), run(size, 9)
			want, names, asked := api.OK, 1, api.OK
			if name > 60 || size > 60 {
				want, names, asked = api.ErrLong, 0, api.ErrAuth
			} else if size == 0 {
				names, asked = 0, api.ErrAuth
			}
			what := fmt.Sprint(name, " and ", size, " bytes")
			is(t, what, s.Set(full, secret), want)
			has(t, what, s, names)
			is(t, what, s.Pap(full, secret, 0), asked)
		}
	}
}

// A full name is measured with its sign and its realm.
func TestP1501SetLongRealm(t *testing.T) {
	for at := range 60 {
		s, full := store(t, 0, 1), run(at, 0)+"@"+run(59-at, 1)
		is(t, "60 bytes", s.Set(full, "p"), api.OK)
		is(t, "61 bytes", s.Set("y"+full, "p"), api.ErrLong)
		has(t, "60 bytes", s, 1)
		secretIs(t, s, full, "p")
	}
}

// A name that is there keeps its one place, however it is spelt, and has its last secret.
func TestP1501SetAnew(t *testing.T) {
	for _, x := range [][2]string{{"a", "a"}, {"a", "a@"}, {"a@", "a"}, {"", "@"}, {"@", ""}, {"a@x", "a@x"}, {run(59, 0), run(59, 0) + "@"}} {
		s := store(t, 0, 1)
		is(t, "Set", s.Set(x[0], "one"), api.OK)
		is(t, "Set anew", s.Set(x[1], "two"), api.OK)
		has(t, "Set anew", s, 1)
		for _, full := range x {
			secretIs(t, s, full, "two")
			is(t, "the old secret", s.Pap(full, "one", 0), api.ErrAuth)
		}
		is(t, "the same secret", s.Set(x[0], "two"), api.OK)
		has(t, "the same secret", s, 1)
	}
}

// Names that are alike but for a sign, or where it stands, are others.
func TestP1501SetOthers(t *testing.T) {
	names := []string{"", "a", "A", "@a", "a@a", "@@", "a@@", "@a@", "@@a", "a@a@", "aa", "a ", "a@x", "x@a", "a@x@", "a\x00"}
	s := store(t, 0, 1)
	for i, full := range names {
		is(t, "Set", s.Set(full, fmt.Sprint("s", i)), api.OK)
		has(t, full, s, i+1)
	}
	for i, full := range names {
		secretIs(t, s, full, fmt.Sprint("s", i))
	}
}

// What a new secret changes is the secret: what was wrong stays so, and who is shut stays shut.
func TestP1501SetAnewWasWrong(t *testing.T) {
	s := storeOf(t, 2, 10, "a")
	is(t, "a wrong try", s.Pap("a", "q", 5), api.ErrAuth)
	is(t, "Set anew", s.Set("a@", "r"), api.OK)
	wrong(t, "Set anew", s, "a", 1)
	is(t, "a wrong try", s.Pap("a", "p", 7), api.ErrAuth)
	is(t, "Set anew", s.Set("a", "p"), api.OK)
	wrong(t, "Set anew", s, "a", 2)
	is(t, "shut", s.Pap("a", "p", 16), api.ErrState)
	is(t, "calm", s.Pap("a", "p", 17), api.OK)
}

func TestP1501SetTakesAway(t *testing.T) {
	for _, x := range [][2]string{{"a", "a"}, {"a", "a@"}, {"a@", "a"}, {"", ""}, {"@", ""}, {"a@x", "a@x"}} {
		s := storeOf(t, 1, 1000, x[0])
		is(t, "Set", s.Set("b", "q"), api.OK)
		is(t, "a wrong try", s.Pap(x[0], "q", 0), api.ErrAuth)
		is(t, "shut", s.Pap(x[0], "p", 0), api.ErrState)
		for range 2 {
			is(t, "Set away", s.Set(x[1], ""), api.OK)
			has(t, "Set away", s, 1)
			for _, full := range x {
				wrong(t, "Set away", s, full, 0)
				is(t, "Set away", s.Pap(full, "p", 0), api.ErrAuth)
				is(t, "Set away", s.Pap(full, "", 0), api.ErrAuth)
			}
		}
		is(t, "Set again", s.Set(x[0], "r"), api.OK)
		has(t, "Set again", s, 2)
		wrong(t, "Set again", s, x[0], 0)
		is(t, "Set again", s.Pap(x[0], "r", 0), api.OK)
		is(t, "the other name", s.Pap("b", "q", 0), api.OK)
	}
}

// A name that is not there may be taken away: nothing comes of it.
func TestP1501SetNobodyAway(t *testing.T) {
	for _, n := range []int{0, 1, 2, 99} {
		s := filled(t, n)
		for _, full := range []string{"", "@", "nobody", "n", "n0@x", run(60, 0)} {
			is(t, "Set away", s.Set(full, ""), api.OK)
			has(t, "Set away", s, n)
		}
		for i := range n {
			secretIs(t, s, fmt.Sprint("n", i), fmt.Sprint("s", i))
		}
	}
}

func TestP1501SetFull(t *testing.T) {
	s := filled(t, 100)
	for _, full := range []string{"n100", "", "@", "n0@x", "n0@@", "n", run(60, 0)} {
		is(t, "one more", s.Set(full, "p"), api.ErrFull)
		is(t, "one more, taken away", s.Set(full, ""), api.ErrFull)
		has(t, "one more", s, 100)
		is(t, "one more", s.Pap(full, "p", 0), api.ErrAuth)
		wrong(t, "one more", s, full, 0)
	}
	is(t, "one that is there", s.Set("n7", "other"), api.OK)
	is(t, "one that is there, spelt otherwise", s.Set("n8@", "other"), api.OK)
	has(t, "those that are there", s, 100)
	for i := range 100 {
		secret := fmt.Sprint("s", i)
		if i == 7 || i == 8 {
			secret = "other"
		}
		secretIs(t, s, fmt.Sprint("n", i), secret)
	}
}

// Where a name was taken away there is room for another one, for one alone.
func TestP1501SetRoomAgain(t *testing.T) {
	s := filled(t, 100)
	for i := range 100 {
		old, young := fmt.Sprint("n", i, "@"), fmt.Sprint("m", i)
		is(t, "full", s.Set(young, "p"), api.ErrFull)
		is(t, "Set away", s.Set(old, ""), api.OK)
		has(t, "Set away", s, 99)
		is(t, "Set", s.Set(young, "p"), api.OK)
		is(t, "full", s.Set(old, "p"), api.ErrFull)
		has(t, "full", s, 100)
		is(t, "the one that went", s.Pap(old, fmt.Sprint("s", i), 0), api.ErrAuth)
		secretIs(t, s, young, "p")
	}
}

func TestP1501WhichErrorFirst(t *testing.T) {
	s := filled(t, 100)
	for _, long := range longs() {
		for _, text := range append(texts(), longs()...) {
			is(t, "a long name", s.Set(long, text), api.ErrLong)
			is(t, "a long secret", s.Set(text, long), api.ErrLong)
		}
		is(t, "a long secret of one that is there", s.Set("n5", long), api.ErrLong)
	}
	has(t, "errors alone", s, 100)
	for i := range 100 {
		secretIs(t, s, fmt.Sprint("n", i), fmt.Sprint("s", i))
	}
}

// A spelling that is too long is ErrLong, though its name be there.
func TestP1501LongSpelling(t *testing.T) {
	s := storeOf(t, 0, 1, run(60, 0))
	is(t, "another secret", s.Set(run(60, 0)+"@", "q"), api.ErrLong)
	is(t, "taken away", s.Set(run(60, 0)+"@", ""), api.ErrLong)
	has(t, "errors alone", s, 1)
	secretIs(t, s, run(60, 0), "p")
}

// An error changes nothing: not the secret, and not what is known beside it.
func TestP1501ErrorsChangeNothing(t *testing.T) {
	s := storeOf(t, 2, 10, "a")
	for range 2 {
		is(t, "a wrong try", s.Pap("a", "q", 5), api.ErrAuth)
	}
	for _, long := range longs() {
		is(t, "Set", s.Set("a", long), api.ErrLong)
		is(t, "Set", s.Set(long, "r"), api.ErrLong)
		is(t, "Set", s.Set(long, ""), api.ErrLong)
	}
	has(t, "errors", s, 1)
	wrong(t, "errors", s, "a", 2)
	is(t, "shut", s.Pap("a", "p", 14), api.ErrState)
	is(t, "calm", s.Pap("a", "p", 15), api.OK)
}

// A piece of some bytes is taken as if it stood alone.
func TestP1501WhatStandsBehindAPiece(t *testing.T) {
	full := "ab@xy" + run(100, 1)
	if got := Split(full[:4]); got != (Who{"ab", "x"}) {
		t.Errorf("Split = %#v", got)
	}
	if got := Split(full[1:2]); got != (Who{Name: "b"}) {
		t.Errorf("Split = %#v", got)
	}
	s := store(t, 0, 1)
	is(t, "Set", s.Set(full[:4], full[3:5]), api.OK)
	secretIs(t, s, "ab@x", "xy")
}
