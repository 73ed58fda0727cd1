package chap

import (
	"crypto/md5"
	"fmt"
	"slices"
	"testing"

	"tollgate/api"
)

// P1402, and P1406 of a client.

// client makes a client of the name u, the secret p.
func client(t *testing.T) *Client {
	t.Helper()
	return clientOf(t, "u", "p")
}

func clientOf(t *testing.T, name, secret string) *Client {
	t.Helper()
	c, err := NewClient(name, secret)
	if c == nil || err != api.OK {
		t.Fatalf("NewClient(%q, %q) = %v, %d", name, secret, c, err)
	}
	return c
}

// proof tells the answer to a challenge by another hand than the program's.
func proof(id int, secret, value string) string {
	sum := md5.Sum([]byte(head(id) + secret + value))
	return string(sum[:])
}

func asks(id int, value string) api.Packet { return packet(1, id, value, "ac") }

// proves tells the Response of the name u, the secret p.
func proves(id int, value string) api.Packet { return packet(2, id, proof(id, "p", value), "u") }

func TestP1402New(t *testing.T) {
	for _, name := range texts() {
		for _, secret := range texts() {
			c := clientOf(t, name, secret)
			is(t, "New", c, false, false)
			says(t, "Take", c.Take(asks(7, "v")), packet(2, 7, proof(7, secret, "v"), name))
		}
	}
}

func TestP1402NewLong(t *testing.T) {
	for _, long := range longs() {
		for _, text := range append(texts(), longs()...) {
			if c, err := NewClient(long, text); c != nil || err != api.ErrLong {
				t.Errorf("NewClient with a name of %d bytes = %v, %d", len(long), c, err)
			}
			if c, err := NewClient(text, long); c != nil || err != api.ErrLong {
				t.Errorf("NewClient with a secret of %d bytes = %v, %d", len(long), c, err)
			}
		}
	}
}

// Whatever value and name a Challenge has: the answer hangs on the value, not on the name.
func TestP1402Challenge(t *testing.T) {
	c := client(t)
	for _, value := range texts()[1:] {
		for _, name := range texts() {
			for id := range 256 {
				says(t, "Take", c.Take(packet(1, id, value, name)), proves(id, value))
			}
			is(t, "asked", c, false, false)
		}
	}
}

// An Id that is no byte is handed back as it is; its byte is what is proved.
func TestP1402ChallengeAnyId(t *testing.T) {
	for _, id := range others(1) {
		c := client(t)
		says(t, "Take", c.Take(asks(id, "v")), proves(id, "v"))
		for _, other := range []int{id ^ 256, id ^ 1<<32, id ^ 1} {
			says(t, "Take", c.Take(bare(3, other)))
			is(t, "another Id", c, false, false)
		}
		says(t, "Take", c.Take(bare(3, id)))
		is(t, "that Id", c, true, true)
	}
}

// What holds no value is not answered, and the last Response stays the last one.
func TestP1402ChallengeWrong(t *testing.T) {
	c := client(t)
	for _, data := range noData() {
		says(t, "ahead of any Response", c.Take(api.Packet{Code: 1, Id: 5, Data: data}))
		says(t, "ahead of any Response", c.Take(bare(3, 5)))
		is(t, "ahead of any Response", c, false, false)
	}
	says(t, "Take", c.Take(asks(5, "v")), proves(5, "v"))
	for _, data := range noData() {
		says(t, "no value", c.Take(api.Packet{Code: 1, Id: 6, Data: data}))
		says(t, "no value", c.Take(bare(3, 6)))
		is(t, "no value", c, false, false)
	}
	says(t, "Take", c.Take(bare(3, 5)))
	is(t, "the last Response", c, true, true)
}

// A Challenge says all by its Code, its Id and its Data.
func TestP1402ChallengeWithOptions(t *testing.T) {
	c := client(t)
	p := asks(3, "v")
	p.Options = []api.Option{{Type: 1, Value: "v"}}
	says(t, "Take", c.Take(p), proves(3, "v"))
}

// Ahead of any Response nothing says that it is done.
func TestP1402AheadOfAnyResponse(t *testing.T) {
	for _, code := range []int{3, 4} {
		c := client(t)
		for _, id := range append(others(-1000), 0) {
			says(t, "Take", c.Take(bare(code, id)))
			is(t, "ahead of any Response", c, false, false)
		}
		says(t, "Take", c.Take(asks(0, "v")), proves(0, "v"))
		is(t, "a Response", c, false, false)
		says(t, "Take", c.Take(bare(code, 0)))
		is(t, "an answer", c, true, code == 3)
	}
}

func TestP1402OtherIds(t *testing.T) {
	for _, code := range []int{3, 4} {
		c := client(t)
		c.Take(asks(2, "v"))
		c.Take(asks(3, "v"))
		for _, id := range others(3) {
			says(t, "Take", c.Take(bare(code, id)))
			is(t, fmt.Sprint("the Id ", id), c, false, false)
		}
		says(t, "Take", c.Take(bare(code, 3)))
		is(t, "its Id", c, true, code == 3)
	}
}

// Codes beside the three say nothing, whatever they bring.
func TestP1402OtherCodes(t *testing.T) {
	c := client(t)
	c.Take(asks(3, "v"))
	for _, code := range others(3) {
		if code == 1 || code == 4 {
			continue
		}
		for _, data := range []string{"", "\x01vac", "x"} {
			says(t, "Take", c.Take(api.Packet{Code: code, Id: 3, Data: data}))
			is(t, fmt.Sprint("the Code ", code), c, false, false)
			says(t, "Take", c.Take(api.Packet{Code: code, Id: 4, Data: data}))
		}
	}
	c.Take(bare(3, 4))
	is(t, "an Id that was not answered", c, false, false)
	c.Take(bare(3, 3))
	is(t, "its Id", c, true, true)
}

// Whatever stands in an answer: its Code and its Id say all.
func TestP1402AnswerWithData(t *testing.T) {
	for _, code := range []int{3, 4} {
		for _, data := range []string{"", "welcome", "\x00", "\x01vac", run(1500, 1)} {
			for _, l := range [][]api.Option{nil, {{Type: 1, Value: "v"}}, make([]api.Option, 40)} {
				c := client(t)
				c.Take(asks(3, "v"))
				says(t, "Take", c.Take(api.Packet{Code: code, Id: 3, Data: data, Options: l}))
				is(t, "an answer", c, true, code == 3)
			}
		}
	}
}

// A Challenge behind an answer is answered, and done stays until that is answered in its turn.
func TestP1402ChallengeWhenDone(t *testing.T) {
	for _, first := range []int{3, 4} {
		for _, second := range []int{3, 4} {
			for _, id := range []int{5, 6, 0, 255} {
				c := client(t)
				c.Take(asks(5, "v"))
				c.Take(bare(first, 5))
				is(t, "the first answer", c, true, first == 3)
				says(t, "asked again", c.Take(asks(id, "w")), proves(id, "w"))
				is(t, "asked again", c, true, first == 3)
				if id != 5 {
					says(t, "too late", c.Take(bare(second, 5)))
					is(t, "too late", c, true, first == 3)
				}
				says(t, "no value", c.Take(api.Packet{Code: 1, Id: 77, Data: "\x00"}))
				is(t, "no value", c, true, first == 3)
				says(t, "the second answer", c.Take(bare(second, id)))
				is(t, "the second answer", c, true, second == 3)
			}
		}
	}
}

// The last answer with that Id is what holds.
func TestP1402AnsweredTwice(t *testing.T) {
	c := client(t)
	c.Take(asks(5, "v"))
	for _, code := range []int{3, 3, 4, 4, 3, 4} {
		says(t, "Take", c.Take(bare(code, 5)))
		for range 3 {
			is(t, "answered", c, true, code == 3)
		}
	}
}

// What was told is not changed later, and what is changed in it changes nothing.
func TestP1402NothingIsShared(t *testing.T) {
	c := client(t)
	first, second := c.Take(asks(1, "v")), c.Take(asks(2, "w"))
	c.Take(bare(3, 2))
	third := c.Take(asks(2, "w"))
	says(t, "the first", first, proves(1, "v"))
	says(t, "the second", second, proves(2, "w"))
	says(t, "the third", third, proves(2, "w"))
	for _, l := range [][]api.Packet{first, second, third} {
		spoil(l)
	}
	is(t, "spoilt", c, true, true)
	says(t, "once more", c.Take(asks(2, "w")), proves(2, "w"))
	says(t, "Take", c.Take(bare(4, 2)))
	is(t, "its Id", c, true, false)
}

// What is handed in stays as it is, its spare room too.
func TestP1402ThePacketStays(t *testing.T) {
	full := []api.Option{{Type: 1, Value: "a"}, {Type: 2, Value: "b"}, {Type: 3, Value: "room"}}
	kept := slices.Clone(full)
	c := client(t)
	for code := range 6 {
		c.Take(api.Packet{Code: code, Id: 1, Options: full[:2], Data: "\x01vac"})
	}
	if !slices.Equal(full, kept) {
		t.Errorf("%v is left", full)
	}
}

// Two clients know nothing of each other, a copy neither.
func TestP1402EachItsOwn(t *testing.T) {
	a, b := client(t), clientOf(t, "u", "q")
	a.Take(asks(1, "v"))
	copied := *a
	a.Take(bare(3, 1))
	b.Take(bare(3, 1))
	is(t, "the one", a, true, true)
	is(t, "the other", b, false, false)
	is(t, "the copy", &copied, false, false)
	says(t, "the other", b.Take(asks(1, "v")), packet(2, 1, proof(1, "q", "v"), "u"))
	copied.Take(bare(4, 1))
	is(t, "the copy", &copied, true, false)
	is(t, "the one", a, true, true)
}

func TestP1406NilAndZeroClient(t *testing.T) {
	for what, c := range map[string]*Client{"nil": nil, "zero": {}} {
		for range 10 {
			is(t, what, c, false, false)
			for code := -1; code < 6; code++ {
				for id := -1; id < 3; id++ {
					for _, data := range []string{"", "\x01v", "\x01vac", "\x00"} {
						says(t, what, c.Take(api.Packet{Code: code, Id: id, Data: data}))
						is(t, what, c, false, false)
					}
				}
			}
			says(t, what, c.Take(api.Packet{}))
		}
	}
}
