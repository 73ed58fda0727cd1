package chap

import (
	"fmt"
	"testing"

	"tollgate/api"
)

// P1404.

// judged makes a server that was judged, of the last Id 3.
func judged(t *testing.T, good bool) (*Server, api.Packet) {
	t.Helper()
	s := server(t, 2, 2)
	for id := 1; id < 4; id++ {
		says(t, "Start", s.Start("v"), asks(id, "v"))
	}
	takes(t, "Take", s, responds(3), Claim{"u", "v", "rr", 3})
	want := bare(4, 3)
	if good {
		want = bare(3, 3)
	}
	says(t, "Judge", s.Judge(good), want)
	return s, want
}

// The same packet is told as often as it is asked, whatever Data the Response has.
func TestP1404Again(t *testing.T) {
	for _, good := range []bool{true, false} {
		s, want := judged(t, good)
		for _, data := range append(noData(), "\x02rru", "\x05otherother", "any") {
			for range 3 {
				says(t, "Again", s.Again(api.Packet{Code: 2, Id: 3, Data: data}), want)
				is(t, "Again", s, true, good)
			}
		}
		says(t, "with options", s.Again(api.Packet{Code: 2, Id: 3, Options: make([]api.Option, 2)}), want)
		quiet(t, "judged", s, 20)
		says(t, "later", s.Again(responds(3)), want)
	}
}

func TestP1404OtherIdsAndCodes(t *testing.T) {
	for _, good := range []bool{true, false} {
		s, want := judged(t, good)
		for _, id := range others(3) {
			says(t, fmt.Sprint("the Id ", id), s.Again(responds(id)))
		}
		for _, code := range others(2) {
			says(t, fmt.Sprint("the Code ", code), s.Again(packet(code, 3, "rr", "u")))
		}
		is(t, "judged", s, true, good)
		says(t, "Again", s.Again(responds(3)), want)
	}
}

// What was not judged is not answered, and asking changes nothing.
func TestP1404NotJudged(t *testing.T) {
	for _, p := range places(t)[:3] {
		before := *p.s
		for id := range 3 {
			says(t, p.what, p.s.Again(responds(id)))
		}
		is(t, p.what, p.s, p.done, p.good)
		if *p.s != before {
			t.Errorf("%s: %#v, not %#v", p.what, *p.s, before)
		}
	}
}

// Behind another Start the last Id is another one, which was not judged; what was judged is over.
func TestP1404BehindAnotherStart(t *testing.T) {
	for _, good := range []bool{true, false} {
		s, want := judged(t, good)
		for _, value := range noValues() {
			says(t, "no Start", s.Start(value))
		}
		says(t, "no Start", s.Again(responds(3)), want)
		says(t, "Start", s.Start("w"), asks(4, "w"))
		says(t, "asking", s.Again(responds(3)))
		says(t, "asking", s.Again(responds(4)))
		takes(t, "Take", s, responds(4), Claim{"u", "w", "rr", 4})
		says(t, "waiting", s.Again(responds(3)))
		says(t, "waiting", s.Again(responds(4)))
		is(t, "waiting", s, false, false)
		s.Judge(!good)
		says(t, "judged", s.Again(responds(3)))
		code := 3
		if good {
			code = 4
		}
		says(t, "judged", s.Again(responds(4)), bare(code, 4))
		is(t, "judged", s, true, !good)
	}
}

// When Ids come round to the one that was judged, it is not judged for that.
func TestP1404TheSameIdLater(t *testing.T) {
	s, _ := judged(t, true)
	for range 256 {
		s.Start("w")
	}
	says(t, "asking", s.Again(responds(3)))
	is(t, "asking", s, false, false)
	takes(t, "Take", s, responds(3), Claim{"u", "w", "rr", 3})
	says(t, "waiting", s.Again(responds(3)))
	says(t, "Judge", s.Judge(false), bare(4, 3))
	says(t, "judged", s.Again(responds(3)), bare(4, 3))
}

// A server that was judged and then gave up has nothing to tell of it.
func TestP1404GaveUpBehindAJudge(t *testing.T) {
	s, _ := judged(t, true)
	s.Start("w")
	for range 6 {
		s.Tick()
	}
	is(t, "no answer", s, true, false)
	says(t, "Again", s.Again(responds(3)))
	says(t, "Again", s.Again(responds(4)))
}

// Asking whether it is done changes nothing.
func TestP1404Done(t *testing.T) {
	for _, p := range places(t) {
		before := *p.s
		for range 3 {
			is(t, p.what, p.s, p.done, p.good)
		}
		if *p.s != before {
			t.Errorf("%s: %#v, not %#v", p.what, *p.s, before)
		}
	}
	is(t, "New", server(t, 1, 1), false, false)
}
