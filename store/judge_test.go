package store

import (
	"crypto/md5"
	"fmt"
	"math"
	"testing"

	"tollgate/api"
)

// P1502.

// proof tells the answer to a challenge by another hand than the program's.
func proof(id int, secret, value string) string {
	sum := md5.Sum([]byte(string([]byte{byte(id)}) + secret + value))
	return string(sum[:])
}

// way is a way to try a secret.
type way struct {
	what string
	try  func(s *Store, full, secret string, time int) api.Errno
}

func byPap(s *Store, full, secret string, time int) api.Errno { return s.Pap(full, secret, time) }

func byChap(s *Store, full, secret string, time int) api.Errno {
	return s.Chap(full, 7, "v", proof(7, secret, "v"), time)
}

// ways are by Pap, by Chap, and by both in turn.
func ways() []way {
	turn := 0
	return []way{{"Pap", byPap}, {"Chap", byChap}, {"mixed", func(s *Store, full, secret string, time int) api.Errno {
		turn++
		if turn%2 > 0 {
			return byPap(s, full, secret, time)
		}
		return byChap(s, full, secret, time)
	}}}
}

func TestP1502Example(t *testing.T) {
	s := store(t, 2, 10)
	is(t, "Set", s.Set("a@x", "p"), api.OK)
	is(t, "wrong", s.Pap("a@x", "q", 0), api.ErrAuth)
	is(t, "wrong again", s.Pap("a@x", "q", 0), api.ErrAuth)
	is(t, "shut", s.Pap("a@x", "p", 9), api.ErrState)
	is(t, "calm", s.Pap("a@x", "p", 10), api.OK)
}

// Of no name each try is ErrAuth, however often, and nothing is known of it behind it.
func TestP1502NoName(t *testing.T) {
	for _, limit := range []int{0, 1, 2} {
		for _, w := range ways() {
			s := storeOf(t, limit, 10, "a@x")
			for _, full := range append([]string{"", "@", "a", "a@", "x", "@x", "a@x@", "A@x", "a@x ", "nobody"}, longs()...) {
				for range 4 {
					is(t, w.what, w.try(s, full, "p", 0), api.ErrAuth)
					is(t, w.what, w.try(s, full, "", 0), api.ErrAuth)
					wrong(t, w.what, s, full, 0)
				}
			}
			has(t, w.what, s, 1)
			wrong(t, w.what, s, "a@x", 0)
			is(t, w.what, w.try(s, "a@x", "p", 0), api.OK)
		}
	}
}

// A name that a longer spelling tells as the same is known by that, too: it is not measured here.
func TestP1502ByAnotherSpelling(t *testing.T) {
	for _, full := range []string{"", "a", run(60, 0)} {
		for _, w := range ways() {
			s := storeOf(t, 2, 10, full)
			is(t, w.what, w.try(s, full+"@", "p", 0), api.OK)
			is(t, w.what, w.try(s, full+"@", "q", 0), api.ErrAuth)
			wrong(t, w.what, s, full, 1)
			is(t, w.what, w.try(s, full, "q", 0), api.ErrAuth)
			wrong(t, w.what, s, full+"@", 2)
			is(t, w.what, w.try(s, full+"@", "p", 9), api.ErrState)
			is(t, w.what, w.try(s, full+"@@", "p", 9), api.ErrAuth)
		}
	}
}

func TestP1502RightAndWrong(t *testing.T) {
	for _, secret := range texts()[1:] {
		for _, w := range ways() {
			s := store(t, 0, 1)
			is(t, "Set", s.Set("u", secret), api.OK)
			for _, other := range append(append(texts(), longs()...), secret+"\x00", "\x00"+secret, secret+secret, secret[1:]) {
				if other == secret {
					is(t, w.what, w.try(s, "u", other, 0), api.OK)
					wrong(t, w.what, s, "u", 0)
					continue
				}
				is(t, w.what, w.try(s, "u", other, 0), api.ErrAuth)
				wrong(t, w.what, s, "u", 1)
				is(t, w.what, w.try(s, "u", secret, 0), api.OK)
				wrong(t, w.what, s, "u", 0)
			}
		}
	}
}

// Every Id modulo 256, and any value.
func TestP1502ChapIdsAndValues(t *testing.T) {
	s := storeOf(t, 0, 1, "u")
	for _, value := range append(texts(), longs()...) {
		for id := -300; id < 600; id++ {
			is(t, fmt.Sprint("the Id ", id), s.Chap("u", id, value, proof(id, "p", value), 0), api.OK)
		}
		for _, id := range []int{math.MinInt, -1 << 32, 1<<32 + 1, math.MaxInt} {
			is(t, fmt.Sprint("the Id ", id), s.Chap("u", id, value, proof(id, "p", value), 0), api.OK)
			is(t, "the next Id", s.Chap("u", id, value, proof(id+1, "p", value), 0), api.ErrAuth)
		}
	}
}

func TestP1502ChapWrong(t *testing.T) {
	s := storeOf(t, 0, 1, "u")
	right := proof(7, "p", "value")
	times := 0
	for _, x := range []struct {
		what, value, response string
		id                    int
	}{
		{"no response", "value", "", 7},
		{"the secret itself", "value", "p", 7},
		{"a byte too few", "value", right[:15], 7},
		{"a byte too many", "value", right + "\x00", 7},
		{"twice", "value", right + right, 7},
		{"another Id", "value", right, 8},
		{"another value", "other", right, 7},
		{"no value", "", right, 7},
		{"a piece of the value", "valu", right, 7},
		{"another secret", "value", proof(7, "q", "value"), 7},
		{"no secret", "value", proof(7, "", "value"), 7},
		{"a byte of the secret in the value", "alue", proof(7, "p", "value"), 7},
		{"the name as the secret", "value", proof(7, "u", "value"), 7},
	} {
		is(t, x.what, s.Chap("u", x.id, x.value, x.response, 0), api.ErrAuth)
		times++
		wrong(t, x.what, s, "u", times)
	}
	for i := range 16 * 8 {
		b := []byte(right)
		b[i/8] ^= 1 << (i % 8)
		is(t, "one bit", s.Chap("u", 7, "value", string(b), 0), api.ErrAuth)
		wrong(t, "one bit", s, "u", times+i+1)
	}
	is(t, "right", s.Chap("u", 7, "value", right, 0), api.OK)
	wrong(t, "right", s, "u", 0)
}

// What Chap takes Pap does not, and the other way round.
func TestP1502EachAsItsOwn(t *testing.T) {
	s := storeOf(t, 0, 1, "u")
	is(t, "a proof by Pap", s.Pap("u", proof(7, "p", "v"), 0), api.ErrAuth)
	is(t, "a secret by Chap", s.Chap("u", 7, "v", "p", 0), api.ErrAuth)
	wrong(t, "both", s, "u", 2)
}

// Limit wrong tries are heard, the next one is not, right or wrong.
func TestP1502EveryLimit(t *testing.T) {
	for _, w := range ways() {
		for limit := 1; limit <= 100; limit++ {
			s := storeOf(t, limit, 10, "u")
			for n := range limit {
				is(t, w.what, w.try(s, "u", "q", 5), api.ErrAuth)
				wrong(t, w.what, s, "u", n+1)
			}
			for range 3 {
				is(t, "shut, wrong", w.try(s, "u", "q", 5), api.ErrState)
				is(t, "shut, right", w.try(s, "u", "p", 5), api.ErrState)
				wrong(t, w.what, s, "u", limit)
			}
			is(t, "calm", w.try(s, "u", "p", 15), api.OK)
			wrong(t, w.what, s, "u", 0)
		}
	}
}

// One fewer than limit, and a right one between, shut nobody.
func TestP1502RightOneBetween(t *testing.T) {
	for _, w := range ways() {
		for _, limit := range []int{1, 2, 3, 100} {
			s := storeOf(t, limit, 1000, "u")
			for range 5 {
				for n := range limit - 1 {
					is(t, w.what, w.try(s, "u", "q", 5), api.ErrAuth)
					wrong(t, w.what, s, "u", n+1)
				}
				is(t, w.what, w.try(s, "u", "p", 5), api.OK)
				wrong(t, w.what, s, "u", 0)
			}
		}
	}
}

func TestP1502NoLimit(t *testing.T) {
	for _, w := range ways() {
		s := storeOf(t, 0, 1000, "u")
		for n := range 300 {
			is(t, w.what, w.try(s, "u", "q", 5), api.ErrAuth)
			wrong(t, w.what, s, "u", n+1)
		}
		is(t, w.what, w.try(s, "u", "p", 5), api.OK)
		wrong(t, w.what, s, "u", 0)
	}
}

// Every tick around the end of each calm; being told so changes nothing.
func TestP1502EveryCalm(t *testing.T) {
	for _, calm := range []int{1, 2, 3, 10, 999, 1000} {
		for _, at := range []int{0, 1, -1, -calm, 500, 1 << 40, -1 << 40} {
			for _, w := range ways() {
				s := storeOf(t, 2, calm, "u")
				for range 2 {
					is(t, w.what, w.try(s, "u", "q", at), api.ErrAuth)
				}
				for tick := range calm {
					is(t, "not calm yet", w.try(s, "u", "p", at+tick), api.ErrState)
				}
				wrong(t, "not calm yet", s, "u", 2)
				is(t, "calm", w.try(s, "u", "p", at+calm), api.OK)
				wrong(t, "calm", s, "u", 0)
			}
		}
	}
}

func TestP1502LongBehindCalm(t *testing.T) {
	for _, behind := range []int{10, 11, 19, 20, 100, 1000, 1 << 31, 1 << 32, 1<<32 + 1, 1 << 62, math.MaxInt} {
		for _, w := range ways() {
			s := storeOf(t, 1, 10, "u")
			is(t, w.what, w.try(s, "u", "q", 0), api.ErrAuth)
			is(t, w.what, w.try(s, "u", "p", behind), api.OK)
		}
	}
}

// Behind calm ticks a wrong try is one more, and shuts anew from its own time on.
func TestP1502WrongBehindCalm(t *testing.T) {
	for _, w := range ways() {
		for _, limit := range []int{1, 2, 5} {
			s := storeOf(t, limit, 10, "u")
			for range limit {
				is(t, w.what, w.try(s, "u", "q", 0), api.ErrAuth)
			}
			at := 0
			for n, behind := range []int{10, 11, 10, 500, 10} {
				is(t, "shut", w.try(s, "u", "q", at+9), api.ErrState)
				at += behind
				is(t, "calm", w.try(s, "u", "q", at), api.ErrAuth)
				wrong(t, "calm", s, "u", limit+n+1)
				is(t, "shut anew", w.try(s, "u", "p", at), api.ErrState)
			}
			is(t, "shut anew", w.try(s, "u", "p", at+9), api.ErrState)
			is(t, "calm", w.try(s, "u", "p", at+10), api.OK)
			wrong(t, "calm", s, "u", 0)
		}
	}
}

// Calm is counted from the last wrong try on: neither from the first one, nor from one that was not heard.
func TestP1502CalmFromTheLastOne(t *testing.T) {
	for _, w := range ways() {
		s := storeOf(t, 3, 10, "u")
		for _, at := range []int{0, 5, 12} { // however far apart: they are in a row
			is(t, w.what, w.try(s, "u", "q", at), api.ErrAuth)
		}
		for _, at := range []int{12, 15, 21} {
			is(t, w.what, w.try(s, "u", "q", at), api.ErrState)
		}
		is(t, w.what, w.try(s, "u", "p", 22), api.OK)
		for _, at := range []int{100, 5000} {
			is(t, "far apart", w.try(s, "u", "q", at), api.ErrAuth)
		}
		wrong(t, "far apart", s, "u", 2)
		is(t, "far apart", w.try(s, "u", "q", 1<<50), api.ErrAuth)
		is(t, "far apart", w.try(s, "u", "p", 1<<50+9), api.ErrState)
	}
}

// At a time ahead of the last wrong try fewer than calm ticks have gone by.
func TestP1502AheadOfTheLastOne(t *testing.T) {
	for _, w := range ways() {
		for _, ahead := range []int{1, 9, 10, 11, 1000, 1001, 1 << 32, 1 << 62, math.MaxInt} {
			s := storeOf(t, 1, 10, "u")
			is(t, w.what, w.try(s, "u", "q", 0), api.ErrAuth)
			is(t, w.what, w.try(s, "u", "p", -ahead), api.ErrState)
			is(t, w.what, w.try(s, "u", "q", -ahead), api.ErrState)
			is(t, "not heard", w.try(s, "u", "p", 9), api.ErrState)
			is(t, w.what, w.try(s, "u", "p", 10), api.OK)
		}
	}
}

// The last one is the one that came last, though its time be ahead of another one's.
func TestP1502TimesGoBack(t *testing.T) {
	for _, w := range ways() {
		s := storeOf(t, 2, 10, "u")
		is(t, w.what, w.try(s, "u", "q", 100), api.ErrAuth)
		is(t, w.what, w.try(s, "u", "q", 50), api.ErrAuth)
		is(t, w.what, w.try(s, "u", "p", 59), api.ErrState)
		is(t, w.what, w.try(s, "u", "p", 60), api.OK)
		is(t, w.what, w.try(s, "u", "q", 20), api.ErrAuth)
		is(t, "not shut, any time", w.try(s, "u", "p", 10), api.OK)
	}
}

func TestP1502TheEndsOfTime(t *testing.T) {
	least, most := math.MinInt, math.MaxInt
	for _, w := range ways() {
		for _, calm := range []int{1, 10, 1000} {
			for _, x := range []struct {
				last, time int
				want       api.Errno
			}{
				{least, least, api.ErrState},
				{least, least + calm - 1, api.ErrState},
				{least, least + calm, api.OK},
				{least, -1, api.OK},
				{least, 0, api.OK},
				{least, most, api.OK},
				{least + 1, least, api.ErrState},
				{least + 1, most, api.OK},
				{-1, most, api.OK},
				{0, most, api.OK},
				{0, least, api.ErrState},
				{-1, least, api.ErrState},
				{most, least, api.ErrState},
				{most, least + calm, api.ErrState},
				{most, 0, api.ErrState},
				{most, most - 1, api.ErrState},
				{most, most, api.ErrState}, // it is never calm again
				{most - calm + 1, most, api.ErrState},
				{most - calm, most, api.OK},
				{most - calm, least, api.ErrState},
			} {
				s := storeOf(t, 1, calm, "u")
				is(t, w.what, w.try(s, "u", "q", x.last), api.ErrAuth)
				is(t, fmt.Sprint(w.what, " calm ", calm, ", at ", x.time, " behind ", x.last), w.try(s, "u", "p", x.time), x.want)
			}
		}
	}
}

// A wrong try by Pap and one by Chap are two in a row, a right one by either ends it.
func TestP1502Mixed(t *testing.T) {
	for _, first := range ways()[:2] {
		for _, second := range ways()[:2] {
			s := storeOf(t, 2, 10, "u")
			is(t, first.what, first.try(s, "u", "q", 0), api.ErrAuth)
			is(t, second.what, second.try(s, "u", "p", 0), api.OK)
			is(t, first.what, first.try(s, "u", "q", 0), api.ErrAuth)
			is(t, second.what, second.try(s, "u", "q", 4), api.ErrAuth)
			wrong(t, "both", s, "u", 2)
			for _, w := range ways()[:2] {
				is(t, w.what, w.try(s, "u", "p", 13), api.ErrState)
			}
			is(t, first.what, first.try(s, "u", "p", 14), api.OK)
		}
	}
}

// What is known of one name changes nothing of another one.
func TestP1502EachNameItsOwn(t *testing.T) {
	names := []string{"", "a", "a@x", "a@y", "b@x", "@x", "a@x@", "a@@x"}
	for _, w := range ways() {
		for i, bad := range names {
			s := store(t, 2, 10)
			for _, full := range names {
				is(t, "Set", s.Set(full, "p"), api.OK)
			}
			is(t, "one wrong", w.try(s, names[(i+1)%len(names)], "q", 0), api.ErrAuth)
			for range 2 {
				is(t, w.what, w.try(s, bad, "q", 0), api.ErrAuth)
			}
			for j, full := range names {
				want, times := api.OK, 0
				if j == i {
					want, times = api.ErrState, 2
				} else if j == (i+1)%len(names) {
					times = 1
				}
				wrong(t, "another name", s, full, times)
				is(t, "another name", w.try(s, full, "p", 0), want)
			}
			is(t, "another name is set", s.Set("new", "p"), api.OK)
			is(t, "another name is taken away", s.Set(names[(i+1)%len(names)], ""), api.OK)
			wrong(t, "another name", s, bad, 2)
			is(t, "another name", w.try(s, bad, "p", 9), api.ErrState)
			is(t, "calm", w.try(s, bad, "p", 10), api.OK)
		}
	}
}

// What is shut is told ahead of what is wrong, and no name ahead of both.
func TestP1502WhichErrorFirst(t *testing.T) {
	for _, w := range ways() {
		s := storeOf(t, 1, 10, "u")
		is(t, w.what, w.try(s, "u", "q", 0), api.ErrAuth)
		is(t, "shut and wrong", w.try(s, "u", "q", 0), api.ErrState)
		is(t, "Set away", s.Set("u", ""), api.OK)
		is(t, "no name", w.try(s, "u", "q", 0), api.ErrAuth)
		is(t, "no name", w.try(s, "u", "p", 0), api.ErrAuth)
		wrong(t, "no name", s, "u", 0)
		is(t, "Set again", s.Set("u", "p"), api.OK)
		is(t, "Set again", w.try(s, "u", "p", 0), api.OK)
	}
}
