package chap

import (
	"fmt"
	"slices"
	"testing"

	"tollgate/api"
)

// P1403, and P1406 of a server.

// server makes a server of the name ac.
func server(t *testing.T, retry, wait int) *Server {
	t.Helper()
	s, err := NewServer("ac", retry, wait)
	if s == nil || err != api.OK {
		t.Fatalf("NewServer with %d, %d = %v, %d", retry, wait, s, err)
	}
	return s
}

// started makes one that asks the value v; its Id is 1.
func started(t *testing.T, retry, wait int) *Server {
	t.Helper()
	s := server(t, retry, wait)
	says(t, "Start", s.Start("v"), asks(1, "v"))
	return s
}

// waiting makes one that waits for a Judge.
func waiting(t *testing.T, retry, wait int) *Server {
	t.Helper()
	s := started(t, retry, wait)
	takes(t, "Take", s, responds(1), Claim{"u", "v", "rr", 1})
	return s
}

// responds tells a Response of the name u, its value rr.
func responds(id int) api.Packet { return packet(2, id, "rr", "u") }

func takes(t *testing.T, what string, s *Server, p api.Packet, want Claim) {
	t.Helper()
	if got, ok := s.Take(p); !ok || got != want {
		t.Fatalf("%s: Take(%#v) = %#v, %v", what, p, got, ok)
	}
}

func passes(t *testing.T, what string, s *Server, p api.Packet) {
	t.Helper()
	if got, ok := s.Take(p); ok || got != (Claim{}) {
		t.Fatalf("%s: Take(%#v) = %#v, %v", what, p, got, ok)
	}
}

// quiet holds that nothing is sent for some ticks.
func quiet(t *testing.T, what string, s *Server, n int) {
	t.Helper()
	for range n {
		says(t, what+": a tick", s.Tick())
	}
}

func TestP1403New(t *testing.T) {
	retries := append(ends(), -2, -1, 0, 1, 5, 9, 10, 11, 12)
	waits := append(ends(), -2, -1, 0, 1, 2, 50, 99, 100, 101, 102)
	for _, name := range append(texts(), longs()...) {
		for _, retry := range retries {
			for _, wait := range waits {
				want := api.OK
				if len(name) > 60 { // told ahead of all else
					want = api.ErrLong
				} else if retry < 0 || retry > 10 || wait < 1 || wait > 100 {
					want = api.ErrArg
				}
				s, err := NewServer(name, retry, wait)
				if err != want || (s != nil) != (want == api.OK) {
					t.Errorf("NewServer of %d bytes, %d, %d = %v, %d", len(name), retry, wait, s, err)
				}
			}
		}
	}
}

func TestP1403NamesAndValues(t *testing.T) {
	for _, name := range texts() {
		for _, value := range texts()[1:] {
			s, err := NewServer(name, 1, 1)
			if err != api.OK {
				t.Fatalf("NewServer(%q) = %d", name, err)
			}
			says(t, "Start", s.Start(value), packet(1, 1, value, name))
			says(t, "Tick", s.Tick(), packet(1, 1, value, name))
			takes(t, "Take", s, responds(1), Claim{"u", value, "rr", 1})
		}
	}
}

// It does nothing until it starts, and no tick counts till then.
func TestP1403BeforeStart(t *testing.T) {
	s := server(t, 1, 3)
	for range 10 {
		quiet(t, "New", s, 4)
		for id := -1; id < 3; id++ {
			passes(t, "New", s, responds(id))
			says(t, "New", s.Again(responds(id)))
		}
		says(t, "New", s.Judge(true))
		says(t, "New", s.Judge(false))
		is(t, "New", s, false, false)
	}
	says(t, "Start", s.Start("v"), asks(1, "v"))
	quiet(t, "asking", s, 2)
	says(t, "the third tick", s.Tick(), asks(1, "v"))
}

// Each Start has the next Id, 255 being followed by 0, and its own value.
func TestP1403StartAgain(t *testing.T) {
	s := server(t, 10, 100)
	for n := 1; n < 1100; n++ {
		value := run(1+n%60, byte(n))
		says(t, "Start", s.Start(value), asks(n%256, value))
		is(t, "Start", s, false, false)
		if n > 1 {
			passes(t, "the Id ahead of it", s, responds((n-1)%256))
		}
		if n >= 255 {
			passes(t, "an Id that is no byte", s, responds(n%256+256))
		}
	}
}

// Each Id can be answered, claimed and judged, those around the wrap too.
func TestP1403EveryId(t *testing.T) {
	s := server(t, 0, 1)
	for n := 1; n < 600; n++ {
		id, good := n%256, n%3 == 0
		says(t, "Start", s.Start("v"), asks(id, "v"))
		for _, other := range []int{id - 256, id + 256, (id + 255) % 256, (id + 1) % 256, id + 1<<32} {
			passes(t, "other Ids", s, responds(other))
		}
		takes(t, "Take", s, responds(id), Claim{"u", "v", "rr", id})
		code := 4
		if good {
			code = 3
		}
		says(t, "Judge", s.Judge(good), bare(code, id))
		is(t, "Judge", s, true, good)
	}
}

// places tells a server at each of the things that it can be at, with the last Id 1, and whether it is done, and good.
func places(t *testing.T) []place {
	t.Helper()
	over, good, bad := started(t, 0, 2), waiting(t, 2, 2), waiting(t, 2, 2)
	quiet(t, "no answer", over, 2)
	says(t, "Judge", good.Judge(true), bare(3, 1))
	says(t, "Judge", bad.Judge(false), bare(4, 1))
	return []place{
		{"asking", started(t, 2, 2), false, false},
		{"waiting", waiting(t, 2, 2), false, false},
		{"not answered", over, true, false},
		{"good", good, true, true},
		{"not good", bad, true, false},
	}
}

type place struct {
	what       string
	s          *Server
	done, good bool
}

// A value that is none changes nothing, wherever the server is.
func TestP1403StartWithoutAValue(t *testing.T) {
	s := server(t, 2, 2)
	for _, value := range noValues() {
		says(t, "New", s.Start(value))
		is(t, "New", s, false, false)
	}
	says(t, "the first Id", s.Start("v"), asks(1, "v"))
	for _, p := range places(t) {
		before := *p.s
		for _, value := range noValues() {
			says(t, p.what, p.s.Start(value))
			is(t, p.what, p.s, p.done, p.good)
		}
		if *p.s != before {
			t.Errorf("%s: %#v, not %#v", p.what, *p.s, before)
		}
		says(t, p.what+": the next Id", p.s.Start("w"), asks(2, "w"))
	}
}

// While it asks, a value that is none neither puts the next tick off nor counts as sent.
func TestP1403NoValueWhileItAsks(t *testing.T) {
	s := started(t, 1, 3)
	for n := 1; n < 7; n++ {
		says(t, "no value", s.Start(""))
		switch n {
		case 3:
			says(t, "Tick", s.Tick(), asks(1, "v"))
		default:
			says(t, "Tick", s.Tick())
		}
		is(t, "ticks", s, n == 6, false)
	}
}

// From wherever it is, a Start begins afresh: with the next Id, all ticks and all tries.
func TestP1403StartFromAnywhere(t *testing.T) {
	for _, p := range places(t) {
		is(t, p.what, p.s, p.done, p.good)
		retry := 2
		if p.what == "not answered" {
			retry = 0
		}
		for id := 2; id < 5; id++ {
			says(t, p.what, p.s.Start("w"), asks(id, "w"))
			is(t, p.what, p.s, false, false)
			says(t, p.what+": nothing to judge", p.s.Judge(true))
			for range retry {
				quiet(t, p.what, p.s, 1)
				says(t, p.what, p.s.Tick(), asks(id, "w"))
			}
			quiet(t, p.what, p.s, 1)
			is(t, p.what, p.s, false, false)
			quiet(t, p.what, p.s, 1)
			is(t, p.what, p.s, true, false)
		}
	}
}

// Behind each wait the same packet goes anew, retry times; then it is done.
func TestP1403Ticks(t *testing.T) {
	for retry := range 11 {
		for _, wait := range []int{1, 2, 3, 50, 99, 100} {
			s := started(t, retry, wait)
			for range retry {
				quiet(t, "waiting", s, wait-1)
				is(t, "waiting", s, false, false)
				says(t, "behind wait", s.Tick(), asks(1, "v"))
				is(t, "sent anew", s, false, false)
			}
			quiet(t, "the last wait", s, wait-1)
			is(t, "the last wait", s, false, false)
			says(t, "one more", s.Tick())
			is(t, "no answer", s, true, false)
			quiet(t, "done", s, 3*wait)
			passes(t, "too late", s, responds(1))
			says(t, "too late", s.Judge(true))
			says(t, "never judged", s.Again(responds(1)))
			is(t, "too late", s, true, false)
		}
	}
}

// A Start counts the ticks anew, and how often it was sent, while it asks and when it is done.
func TestP1403StartCountsAnew(t *testing.T) {
	for ticks := range 13 {
		s := started(t, 2, 3)
		for range ticks {
			s.Tick()
		}
		is(t, "ticks", s, ticks >= 9, false)
		says(t, "Start", s.Start("w"), asks(2, "w"))
		for range 2 {
			quiet(t, "waiting", s, 2)
			says(t, "the third tick", s.Tick(), asks(2, "w"))
		}
		quiet(t, "waiting", s, 2)
		is(t, "waiting", s, false, false)
		quiet(t, "the ninth tick", s, 1)
		is(t, "the ninth tick", s, true, false)
	}
}

// Each tick that it asks at is in time, the last one is not.
func TestP1403TakeAtEachTick(t *testing.T) {
	for retry := range 4 {
		for wait := 1; wait < 5; wait++ {
			end := wait * (retry + 1)
			for ticks := range end + 3 {
				s := started(t, retry, wait)
				for range ticks {
					s.Tick()
				}
				if ticks >= end {
					passes(t, "too late", s, responds(1))
					is(t, "too late", s, true, false)
					continue
				}
				takes(t, "in time", s, responds(1), Claim{"u", "v", "rr", 1})
				quiet(t, "it asks no more", s, 2*end)
				is(t, "it waits for a Judge", s, false, false)
				says(t, "Judge", s.Judge(true), bare(3, 1))
				quiet(t, "judged", s, 2*end)
				is(t, "judged", s, true, true)
			}
		}
	}
}

// The claim has the name and the value of the Response as they are, and the value that was asked.
func TestP1403Claim(t *testing.T) {
	for _, name := range texts() {
		for _, response := range texts()[1:] {
			s := started(t, 0, 1)
			takes(t, "Take", s, packet(2, 1, response, name), Claim{name, "v", response, 1})
			is(t, "Take", s, false, false)
		}
	}
}

// What is no Response to the last Challenge leaves it asking, as if nothing had come.
func TestP1403TakeNothing(t *testing.T) {
	s := server(t, 1, 2)
	for id := 1; id < 4; id++ {
		says(t, "Start", s.Start("v"), asks(id, "v"))
	}
	quiet(t, "asking", s, 1)
	before := *s
	for _, code := range others(2) {
		passes(t, fmt.Sprint("the Code ", code), s, packet(code, 3, "rr", "u"))
	}
	for _, id := range others(3) {
		passes(t, fmt.Sprint("the Id ", id), s, responds(id))
	}
	for _, data := range noData() {
		passes(t, "no value", s, api.Packet{Code: 2, Id: 3, Data: data})
	}
	is(t, "asking", s, false, false)
	says(t, "nothing to judge", s.Judge(true))
	if *s != before {
		t.Errorf("%#v, not %#v", *s, before)
	}
	says(t, "the tick that was next", s.Tick(), asks(3, "v"))
	takes(t, "Take", s, responds(3), Claim{"u", "v", "rr", 3})
}

// A Response says all by its Code, its Id and its Data.
func TestP1403TakeWithOptions(t *testing.T) {
	s := started(t, 0, 1)
	p := responds(1)
	p.Options = []api.Option{{Type: 1, Value: "v"}}
	takes(t, "Take", s, p, Claim{"u", "v", "rr", 1})
}

// Where it does not ask no Response is a claim, the same one neither.
func TestP1403TakeWhereItDoesNotAsk(t *testing.T) {
	for _, p := range places(t)[1:] {
		before := *p.s
		for _, id := range []int{0, 1, 2} {
			passes(t, p.what, p.s, responds(id))
			passes(t, p.what, p.s, packet(2, id, "other", "other"))
		}
		is(t, p.what, p.s, p.done, p.good)
		if *p.s != before {
			t.Errorf("%s: %#v, not %#v", p.what, *p.s, before)
		}
	}
}

func TestP1403Judge(t *testing.T) {
	for code, good := range map[int]bool{3: true, 4: false} {
		s := waiting(t, 2, 2)
		says(t, "Judge", s.Judge(good), bare(code, 1))
		is(t, "Judge", s, true, good)
		for _, again := range []bool{true, false, !good} {
			says(t, "once more", s.Judge(again))
			is(t, "once more", s, true, good)
		}
		quiet(t, "judged", s, 20)
		is(t, "judged", s, true, good)
	}
}

func TestP1403JudgeWhereItDoesNotWait(t *testing.T) {
	for _, p := range places(t) {
		if p.what == "waiting" {
			continue
		}
		before := *p.s
		says(t, p.what, p.s.Judge(true))
		says(t, p.what, p.s.Judge(false))
		is(t, p.what, p.s, p.done, p.good)
		if *p.s != before {
			t.Errorf("%s: %#v, not %#v", p.what, *p.s, before)
		}
	}
}

// A claim whose server started anew is not judged any more; the new one is.
func TestP1403StartWhileItWaits(t *testing.T) {
	s := waiting(t, 0, 3)
	says(t, "Start", s.Start("w"), asks(2, "w"))
	says(t, "Judge", s.Judge(true))
	is(t, "Judge", s, false, false)
	passes(t, "the first Id", s, responds(1))
	takes(t, "the second Id", s, responds(2), Claim{"u", "w", "rr", 2})
	says(t, "Judge", s.Judge(false), bare(4, 2))
	is(t, "Judge", s, true, false)
}

// What was told is not changed later, and what is changed in it changes nothing.
func TestP1403NothingIsShared(t *testing.T) {
	s := server(t, 3, 1)
	first := s.Start("v")
	second := s.Tick()
	third := s.Start("w")
	says(t, "Start", first, asks(1, "v"))
	says(t, "Tick", second, asks(1, "v"))
	says(t, "Start", third, asks(2, "w"))
	for _, l := range [][]api.Packet{first, second, third} {
		spoil(l)
	}
	for range 2 {
		l := s.Tick()
		says(t, "Tick", l, asks(2, "w"))
		spoil(l)
	}
	claim, ok := s.Take(responds(2))
	if !ok || claim != (Claim{"u", "w", "rr", 2}) {
		t.Fatalf("Take = %#v, %v", claim, ok)
	}
	judged := s.Judge(true)
	says(t, "Judge", judged, bare(3, 2))
	spoil(judged)
	again := s.Again(responds(2))
	says(t, "Again", again, bare(3, 2))
	spoil(again)
	says(t, "Again", s.Again(responds(2)), bare(3, 2))
	is(t, "spoilt", s, true, true)
	s.Start("x")
	s.Take(responds(3))
	if claim != (Claim{"u", "w", "rr", 2}) {
		t.Errorf("the claim is %#v now", claim)
	}
}

// A list that was told stays as it was, whatever the server tells next.
func TestP1403ListsStay(t *testing.T) {
	s := waiting(t, 1, 1)
	judged := s.Judge(false)
	first := s.Again(responds(1))
	s.Start("w")
	s.Take(responds(2))
	second := s.Judge(true)
	s.Again(responds(2))
	says(t, "Judge", judged, bare(4, 1))
	says(t, "Again", first, bare(4, 1))
	says(t, "Judge", second, bare(3, 2))
}

// What is handed in stays as it is, its spare room too.
func TestP1403ThePacketStays(t *testing.T) {
	full := []api.Option{{Type: 1, Value: "a"}, {Type: 2, Value: "b"}, {Type: 3, Value: "room"}}
	kept := slices.Clone(full)
	s := started(t, 1, 1)
	p := responds(1)
	p.Options = full[:2]
	s.Take(p)
	s.Judge(true)
	s.Again(p)
	if !slices.Equal(full, kept) {
		t.Errorf("%v is left", full)
	}
}

// Two servers know nothing of each other, a copy neither.
func TestP1403EachItsOwn(t *testing.T) {
	a, b := started(t, 1, 2), server(t, 1, 2)
	quiet(t, "the other", b, 5)
	copied := *a
	takes(t, "the one", a, responds(1), Claim{"u", "v", "rr", 1})
	says(t, "the one", a.Judge(true), bare(3, 1))
	passes(t, "the other", b, responds(1))
	says(t, "the other", b.Judge(true))
	is(t, "the other", b, false, false)
	is(t, "the copy", &copied, false, false)
	says(t, "the other", b.Start("w"), asks(1, "w"))
	quiet(t, "the copy", &copied, 1)
	says(t, "the copy", copied.Tick(), asks(1, "v"))
	is(t, "the one", a, true, true)
}

func TestP1406NilAndZeroServer(t *testing.T) {
	for what, s := range map[string]*Server{"nil": nil, "zero": {}} {
		for range 300 {
			for _, value := range append(noValues(), texts()...) {
				says(t, what, s.Start(value))
			}
			quiet(t, what, s, 2)
			for code := -1; code < 5; code++ {
				for id := -1; id < 3; id++ {
					p := packet(code, id, "rr", "u")
					passes(t, what, s, p)
					says(t, what, s.Judge(true))
					says(t, what, s.Judge(false))
					says(t, what, s.Again(p))
				}
			}
			passes(t, what, s, api.Packet{})
			says(t, what, s.Again(api.Packet{}))
			is(t, what, s, false, false)
		}
	}
}
