package chap

import (
	"testing"

	"tollgate/api"
	"tollgate/digest"
	"tollgate/opts"
)

// P1405: both ends, through bytes.

// link takes packets through bytes, as the layers below will.
func link(t *testing.T, l []api.Packet) api.Packet {
	t.Helper()
	if len(l) != 1 {
		t.Fatalf("%#v is not one packet", l)
	}
	b, err := opts.PutData(l[0])
	if err != api.OK {
		t.Fatalf("PutData(%#v) = %d", l[0], err)
	}
	got, err := opts.GetData(b + "filling")
	if err != api.OK {
		t.Fatalf("GetData = %d", err)
	}
	return got
}

// claimOf lets a server ask a client; what that claims.
func claimOf(t *testing.T, s *Server, c *Client, value string) Claim {
	t.Helper()
	claim, ok := s.Take(link(t, c.Take(link(t, s.Start(value)))))
	if !ok {
		t.Fatal("no claim")
	}
	return claim
}

func TestP1405WhoKnowsTheSecret(t *testing.T) {
	for _, secret := range texts() {
		for _, name := range texts() {
			s, c := server(t, 1, 1), clientOf(t, name, secret)
			for n, value := range texts()[1:] {
				got := claimOf(t, s, c, value)
				if got != (Claim{name, value, digest.Chap(n+1, secret, value), n + 1}) || got.Response != proof(n+1, secret, value) {
					t.Errorf("the claim of %q = %#v", name, got)
				}
			}
		}
	}
}

func TestP1405AnotherSecret(t *testing.T) {
	for i, secret := range texts() {
		for j, other := range texts() {
			for _, value := range texts()[1:] {
				got := claimOf(t, server(t, 1, 1), clientOf(t, "u", other), value)
				if same := got.Response == digest.Chap(1, secret, value); same != (i == j) {
					t.Errorf("%q instead of %q: %#v", other, secret, got)
				}
			}
		}
	}
}

// The answer to one Challenge is none to another one: Id and value are in it.
func TestP1405EachAnswerIsItsOwn(t *testing.T) {
	seen := map[string]int{}
	s, c := server(t, 1, 1), client(t)
	for n := 1; n < 256; n++ {
		for range 2 {
			seen[c.Take(asks(n, "v"))[0].Data]++
			seen[c.Take(asks(n, "w"))[0].Data]++
		}
	}
	if len(seen) != 510 {
		t.Errorf("%d answers to 510 challenges", len(seen))
	}
	first, second := claimOf(t, s, c, "v"), claimOf(t, s, c, "v")
	if first.Response == second.Response {
		t.Error("the same answer to another Id")
	}
}

// All that a server is told, but Judge, leaves it not good, the right proof too.
func TestP1405GoodByJudgeAlone(t *testing.T) {
	for _, good := range []bool{true, false} {
		s, c := server(t, 1, 1), client(t)
		for _, value := range []string{"v", "w"} {
			s.Judge(true)
			claim := claimOf(t, s, c, value)
			is(t, "claimed", s, false, false)
			for code := range 6 {
				for id := range 4 {
					s.Take(packet(code, id, claim.Response, claim.Name))
					s.Again(packet(code, id, claim.Response, claim.Name))
				}
				s.Tick()
				is(t, "claimed", s, false, false)
			}
			c.Take(link(t, s.Judge(good)))
			is(t, "the server", s, true, good)
			is(t, "the client", c, true, good)
		}
	}
}

// A wrong proof that is judged good is good: who judges is who asks.
func TestP1405TheServerJudgesNothing(t *testing.T) {
	s := started(t, 1, 1)
	takes(t, "Take", s, responds(1), Claim{"u", "v", "rr", 1})
	says(t, "Judge", s.Judge(true), bare(3, 1))
	is(t, "Judge", s, true, true)
}

// A Challenge, a Response and an answer may each be lost: they come again, and both are done.
func TestP1405Lost(t *testing.T) {
	for _, good := range []bool{true, false} {
		s, c := server(t, 3, 2), client(t)
		s.Start("v") // lost
		quiet(t, "waiting", s, 1)
		c.Take(link(t, s.Tick())) // its Response is lost
		quiet(t, "waiting", s, 1)
		response := link(t, c.Take(link(t, s.Tick())))
		claim, ok := s.Take(response)
		if !ok || claim.Response != proof(1, "p", "v") {
			t.Fatalf("the claim %#v, %v", claim, ok)
		}
		s.Judge(good) // lost
		is(t, "the client", c, false, false)
		passes(t, "the Response again", s, response)
		c.Take(link(t, s.Again(response)))
		is(t, "the server", s, true, good)
		is(t, "the client", c, true, good)
	}
}

// Doubled, what comes changes nothing more, and an answer from ahead of another Start is none.
func TestP1405Doubled(t *testing.T) {
	s, c := server(t, 3, 2), client(t)
	ask := link(t, s.Start("v"))
	first, second := link(t, c.Take(ask)), link(t, c.Take(ask))
	if first.Data != second.Data || first.Id != second.Id {
		t.Errorf("%#v and %#v", first, second)
	}
	takes(t, "the first", s, first, Claim{"u", "v", proof(1, "p", "v"), 1})
	passes(t, "the second", s, second)
	yes := link(t, s.Judge(true))
	answer := link(t, c.Take(link(t, s.Start("w"))))
	c.Take(yes)
	is(t, "an answer to the Response ahead of the last", c, false, false)
	takes(t, "the third", s, answer, Claim{"u", "w", proof(2, "p", "w"), 2})
	c.Take(link(t, s.Judge(true)))
	c.Take(yes)
	is(t, "the client", c, true, true)
}
