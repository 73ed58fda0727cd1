package neg

import (
	"math"
	"slices"
	"strings"
	"testing"

	"tollgate/api"
)

// P1105 and P1107, and what the tests of all promises share.

var states = []string{"Initial", "Starting", "Closed", "Stopped", "Closing", "Stopping", "ReqSent", "AckRcvd", "AckSent", "Opened"}

// ask tells what setup asks for: by rules of Own 1 and 5 may change, and 9, which must be there; 7 has no rule.
func ask() []api.Option {
	return []api.Option{opt(1, "\x04\x00"), opt(5, "mm"), opt(7, "q"), opt(9, "z")}
}

func setup() Setup {
	return Setup{
		Ask:       ask(),
		Own:       []api.Rule{unit(), {Type: 5, Len: 2, Min: 1, Max: 65535, Suggest: "\x00\x01"}, {Type: 9, Len: 1, Min: 'a', Max: 'z', Suggest: "a"}},
		Peer:      []api.Rule{unit(), {Type: 3, Len: 1, Min: 7, Max: 7, Suggest: "\x07"}},
		Must:      []int{9, 11},
		Configure: 3, Terminate: 2, Fails: 2, Wait: 2,
	}
}

// made makes a negotiation.
func made(t *testing.T, s Setup) *Neg {
	t.Helper()
	n, err := New(s)
	if n == nil || err != api.OK {
		t.Fatalf("New(%+v) = %v, %d", s, n, err)
	}
	return n
}

func pk(code, id int, l ...api.Option) api.Packet {
	return api.Packet{Code: code, Id: id, Options: l}
}

func bare(code, id int, data string) api.Packet { return api.Packet{Code: code, Id: id, Data: data} }

// in makes a negotiation in a state, whose only ConfReq had the Id 1; those in Closed and Closing said a TermReq 2 as well.
func in(t *testing.T, s Setup, state int) *Neg {
	t.Helper()
	n := made(t, s)
	n.Do(api.Up)
	n.Do(api.Open)
	acks, acked := func() { n.Take(pk(api.ConfReq, 77)) }, func() { n.Take(pk(api.ConfAck, 1, s.Ask...)) }
	steps := [][]func(){
		api.Initial:  {func() { n.Do(api.Down) }, func() { n.Do(api.Close) }},
		api.Starting: {func() { n.Do(api.Down) }},
		api.Closed:   {func() { n.Do(api.Close) }, func() { n.Take(bare(api.TermAck, 2, "")) }},
		api.Stopped:  {func() { n.Take(bare(api.CodeRej, 5, "\x01")) }},
		api.Closing:  {func() { n.Do(api.Close) }},
		api.Stopping: {acks, acked, func() { n.Take(bare(api.TermReq, 5, "")) }},
		api.ReqSent:  {},
		api.AckRcvd:  {acked},
		api.AckSent:  {acks},
		api.Opened:   {acks, acked},
	}
	for _, step := range steps[state] {
		step()
	}
	is(t, "on the way", n, state)
	return n
}

// is holds a negotiation's state against what it should be.
func is(t *testing.T, what string, n *Neg, state int) {
	t.Helper()
	if got := n.State(); got != state {
		t.Fatalf("%s: State() = %d, not %s", what, got, states[state])
	}
}

// has holds what was acked against what it should be.
func has(t *testing.T, what string, n *Neg, mine, theirs []api.Option) {
	t.Helper()
	if m, l := n.Mine(), n.Theirs(); !slices.Equal(m, mine) || !slices.Equal(l, theirs) {
		t.Errorf("%s: Mine() = %v, Theirs() = %v, not %v, %v", what, m, l, mine, theirs)
	}
}

// came holds how often it came up and down against what it should be.
func came(t *testing.T, what string, n *Neg, ups, downs int) {
	t.Helper()
	if u, d := n.Ups(); u != ups || d != downs {
		t.Errorf("%s: Ups() = %d, %d, not %d, %d", what, u, d, ups, downs)
	}
}

// alike tells whether packets are the same; nil and an empty list mean the same.
func alike(a, b api.Packet) bool {
	return a.Code == b.Code && a.Id == b.Id && a.Data == b.Data && slices.Equal(a.Options, b.Options)
}

// says holds packets against what they should be.
func says(t *testing.T, what string, got []api.Packet, want ...api.Packet) {
	t.Helper()
	if !slices.EqualFunc(got, want, alike) {
		t.Errorf("%s: %v, not %v", what, got, want)
	}
}

// far has numbers that are no event of Do's, such as are some in their lower bits among them.
func far() []int {
	out := []int{-1, -2, -4, 16, 17, math.MinInt, math.MaxInt}
	for event := api.ToPlus; event <= api.Rxr; event++ {
		out = append(out, event)
	}
	for _, high := range []int{1 << 8, 1 << 16, 1 << 32, 1 << 62} {
		for low := range 4 {
			out = append(out, high+low, low-high)
		}
	}
	return out
}

func TestP1105Do(t *testing.T) {
	term := func(id int) []api.Packet { return []api.Packet{bare(api.TermReq, id, "")} }
	request := []api.Packet{pk(api.ConfReq, 2, ask()...)}
	for _, x := range []struct {
		state, event, next int
		want               []api.Packet
	}{
		{api.Initial, api.Up, api.Closed, nil},
		{api.Initial, api.Down, api.Initial, nil},
		{api.Initial, api.Open, api.Starting, nil},
		{api.Initial, api.Close, api.Initial, nil},
		{api.Starting, api.Up, api.ReqSent, request},
		{api.Starting, api.Down, api.Starting, nil},
		{api.Starting, api.Open, api.Starting, nil},
		{api.Starting, api.Close, api.Initial, nil},
		{api.Closed, api.Up, api.Closed, nil},
		{api.Closed, api.Down, api.Initial, nil},
		{api.Closed, api.Open, api.ReqSent, []api.Packet{pk(api.ConfReq, 3, ask()...)}},
		{api.Closed, api.Close, api.Closed, nil},
		{api.Stopped, api.Up, api.Stopped, nil},
		{api.Stopped, api.Down, api.Starting, nil},
		{api.Stopped, api.Open, api.Stopped, nil},
		{api.Stopped, api.Close, api.Closed, nil},
		{api.Closing, api.Up, api.Closing, nil},
		{api.Closing, api.Down, api.Initial, nil},
		{api.Closing, api.Open, api.Stopping, nil},
		{api.Closing, api.Close, api.Closing, nil},
		{api.Stopping, api.Up, api.Stopping, nil},
		{api.Stopping, api.Down, api.Starting, nil},
		{api.Stopping, api.Open, api.Stopping, nil},
		{api.Stopping, api.Close, api.Closing, nil},
		{api.ReqSent, api.Up, api.ReqSent, nil},
		{api.ReqSent, api.Down, api.Starting, nil},
		{api.ReqSent, api.Open, api.ReqSent, nil},
		{api.ReqSent, api.Close, api.Closing, term(2)},
		{api.AckRcvd, api.Up, api.AckRcvd, nil},
		{api.AckRcvd, api.Down, api.Starting, nil},
		{api.AckRcvd, api.Open, api.AckRcvd, nil},
		{api.AckRcvd, api.Close, api.Closing, term(2)},
		{api.AckSent, api.Up, api.AckSent, nil},
		{api.AckSent, api.Down, api.Starting, nil},
		{api.AckSent, api.Open, api.AckSent, nil},
		{api.AckSent, api.Close, api.Closing, term(2)},
		{api.Opened, api.Up, api.Opened, nil},
		{api.Opened, api.Down, api.Starting, nil},
		{api.Opened, api.Open, api.Opened, nil},
		{api.Opened, api.Close, api.Closing, term(2)},
	} {
		n := in(t, setup(), x.state)
		ups, downs := n.Ups()
		what := states[x.state] + ", " + []string{"Up", "Down", "Open", "Close"}[x.event]
		says(t, what, n.Do(x.event), x.want...)
		is(t, what, n, x.next)
		if x.state == api.Opened && x.next != api.Opened {
			downs++
		}
		came(t, what, n, ups, downs)
	}
}

func TestP1105DoOfOthers(t *testing.T) {
	for state, name := range states {
		n := in(t, setup(), state)
		mine, theirs := n.Mine(), n.Theirs()
		ups, downs := n.Ups()
		for _, event := range far() {
			says(t, name, n.Do(event))
		}
		is(t, name, n, state)
		has(t, name, n, mine, theirs)
		came(t, name, n, ups, downs)
	}
}

// Mine and Theirs are told in Opened alone, and anew each time.
func TestP1105MineAndTheirs(t *testing.T) {
	for state, name := range states {
		n := in(t, setup(), state)
		if state == api.Opened {
			has(t, name, n, ask(), nil)
		} else {
			has(t, name, n, nil, nil)
		}
	}
	n := in(t, setup(), api.Opened)
	came(t, "Opened", n, 1, 0)
	l := []api.Option{opt(3, "\x07"), opt(1, "\x00\x64")}
	says(t, "another request", n.Take(pk(api.ConfReq, 8, l...)), pk(api.ConfReq, 2, ask()...), pk(api.ConfAck, 8, l...))
	is(t, "another request", n, api.AckSent)
	has(t, "another request", n, nil, nil)
	came(t, "another request", n, 1, 1)
	n.Take(pk(api.ConfNak, 2, opt(1, "\x00\x65")))
	n.Take(pk(api.ConfRej, 3, opt(5, "mm"), opt(7, "q")))
	left := []api.Option{opt(1, "\x00\x65"), opt(9, "z")}
	has(t, "before the ack", n, nil, nil)
	says(t, "the ack", n.Take(pk(api.ConfAck, 4, left...)))
	is(t, "the ack", n, api.Opened)
	has(t, "the ack", n, left, l)
	came(t, "the ack", n, 2, 1)
	n.Do(api.Down)
	has(t, "Down", n, nil, nil)
	came(t, "Down", n, 2, 2)
	says(t, "Up again, with what the request became", n.Do(api.Up), pk(api.ConfReq, 5, left...))
	n.Take(pk(api.ConfAck, 5, left...))
	has(t, "AckRcvd", n, nil, nil)
	n.Take(pk(api.ConfReq, 9))
	has(t, "both", n, left, nil)
	came(t, "both", n, 3, 2)
}

// Of two acks to the peer the last one holds; a request that was refused is none.
func TestP1105TheLastAck(t *testing.T) {
	n := in(t, setup(), api.ReqSent)
	n.Take(pk(api.ConfReq, 1, opt(1, "\x00\x64")))
	n.Take(pk(api.ConfReq, 2, opt(3, "\x07")))
	n.Take(pk(api.ConfAck, 1, ask()...))
	has(t, "two acks", n, ask(), []api.Option{opt(3, "\x07")})
	n = in(t, setup(), api.AckRcvd)
	n.Take(pk(api.ConfReq, 1, opt(3, "\x08")))
	n.Take(pk(api.ConfReq, 2, opt(8, "")))
	is(t, "refused", n, api.AckRcvd)
	n.Take(pk(api.ConfReq, 3, opt(3, "\x07"), opt(1, "\x05\xd4")))
	has(t, "an ack behind a nak and a reject", n, ask(), []api.Option{opt(3, "\x07"), opt(1, "\x05\xd4")})
}

// many tells n options.
func many(n int) []api.Option { return slices.Repeat([]api.Option{opt(1, "")}, n) }

func TestP1105AdoptInEveryState(t *testing.T) {
	mine, theirs := []api.Option{opt(1, "a"), opt(8, "")}, []api.Option{opt(2, "b")}
	for state, name := range states {
		n := in(t, setup(), state)
		had, heard := n.Mine(), n.Theirs()
		ups, downs := n.Ups()
		want := api.OK
		if state > api.Starting {
			want = api.ErrState
			if err := n.Adopt([]api.Option{opt(0, "")}, many(31)); err != want {
				t.Errorf("%s: Adopt of what can't be = %d", name, err)
			}
		}
		if err := n.Adopt(mine, theirs); err != want {
			t.Errorf("%s: Adopt = %d, not %d", name, err, want)
		}
		if want == api.OK {
			is(t, name, n, api.Opened)
			has(t, name, n, mine, theirs)
			came(t, name, n, ups+1, downs)
		} else {
			is(t, name, n, state)
			has(t, name, n, had, heard)
			came(t, name, n, ups, downs)
		}
	}
}

func TestP1105AdoptOfWhatCannotBePut(t *testing.T) {
	bad, long := []api.Option{opt(0, "")}, many(31)
	wide := []api.Option{opt(1, strings.Repeat("x", 254))}
	for _, x := range []struct {
		what         string
		mine, theirs []api.Option
		want         api.Errno
	}{
		{"mine bad", bad, nil, api.ErrArg},
		{"theirs bad", nil, bad, api.ErrArg},
		{"mine too many", long, nil, api.ErrLong},
		{"theirs too many", nil, long, api.ErrLong},
		{"mine bad, theirs too many", bad, long, api.ErrArg},
		{"mine too many, theirs bad", long, bad, api.ErrLong},
		{"mine too wide", wide, nil, api.ErrArg},
		{"theirs too wide", nil, wide, api.ErrArg},
		{"a Type of 256", []api.Option{opt(256, "")}, nil, api.ErrArg},
		{"30 and 30, all of one Type", many(30), many(30), api.OK},
		{"as wide as may be", []api.Option{opt(255, strings.Repeat("x", 253))}, nil, api.OK},
		{"neither", nil, []api.Option{}, api.OK},
	} {
		for _, event := range []int{api.Open, api.Close} { // Starting, Initial
			n := made(t, setup())
			n.Do(event)
			state := n.State()
			if err := n.Adopt(x.mine, x.theirs); err != x.want {
				t.Errorf("%s: Adopt = %d, not %d", x.what, err, x.want)
			}
			if x.want == api.OK {
				is(t, x.what, n, api.Opened)
				has(t, x.what, n, x.mine, x.theirs)
				came(t, x.what, n, 1, 0)
				continue
			}
			is(t, x.what, n, state)
			has(t, x.what, n, nil, nil)
			came(t, x.what, n, 0, 0)
		}
	}
}

// adopted makes a negotiation that took over what was agreed.
func adopted(t *testing.T, s Setup) *Neg {
	t.Helper()
	n := made(t, s)
	if err := n.Adopt([]api.Option{opt(1, "a")}, []api.Option{opt(2, "b")}); err != api.OK {
		t.Fatalf("Adopt = %d", err)
	}
	is(t, "adopted", n, api.Opened)
	return n
}

// What was taken over goes on as what was agreed: by the request and the Id that New gave it, with as many tries.
func TestP1105WhatFollowsAdopt(t *testing.T) {
	n := adopted(t, setup())
	for range 10 {
		says(t, "a tick", n.Tick())
	}
	says(t, "a request", n.Take(pk(api.ConfReq, 8)), pk(api.ConfReq, 1, ask()...), pk(api.ConfAck, 8))
	is(t, "a request", n, api.AckSent)
	has(t, "a request", n, nil, nil)
	came(t, "a request", n, 1, 1)
	for id := 2; id <= 3; id++ {
		says(t, "a tick", n.Tick())
		says(t, "the second tick", n.Tick(), pk(api.ConfReq, id, ask()...))
	}
	n.Tick()
	says(t, "the last tick", n.Tick())
	is(t, "the last tick", n, api.Stopped)

	n = adopted(t, setup())
	says(t, "the end", n.Take(bare(api.TermReq, 9, "")), bare(api.TermAck, 9, ""))
	is(t, "the end", n, api.Stopping)

	n = adopted(t, setup())
	says(t, "Close", n.Do(api.Close), bare(api.TermReq, 1, ""))
	is(t, "Close", n, api.Closing)

	n = adopted(t, setup())
	says(t, "Down", n.Do(api.Down))
	is(t, "Down", n, api.Starting)
	if err := n.Adopt(nil, ask()); err != api.OK {
		t.Errorf("Adopt again = %d", err)
	}
	has(t, "Adopt again", n, nil, ask())
	came(t, "Adopt again", n, 2, 1)
}

// What changed in a request stays behind Adopt.
func TestP1105AdoptLeavesTheRequest(t *testing.T) {
	n := in(t, setup(), api.ReqSent)
	n.Take(pk(api.ConfNak, 1, opt(7, "")))
	n.Do(api.Down)
	n.Adopt([]api.Option{opt(7, "q")}, nil)
	says(t, "a request", n.Take(bare(api.TermAck, 1, "")), pk(api.ConfReq, 3, opt(1, "\x04\x00"), opt(5, "mm"), opt(9, "z")))
}

// spoilPackets changes packets, their lists, and all spare room.
func spoilPackets(l []api.Packet) {
	for i := range l {
		spoil(l[i].Options)
	}
	for i := range l[:cap(l)] {
		l[:cap(l)][i] = bare(-9, -9, "spoilt")
	}
}

func TestP1105NothingIsShared(t *testing.T) {
	mine, theirs := []api.Option{opt(1, "a"), opt(2, "b"), opt(3, "c")}, []api.Option{opt(4, "d"), opt(5, "e")}
	n := made(t, setup())
	if err := n.Adopt(mine[:2], theirs[:1]); err != api.OK {
		t.Fatalf("Adopt = %d", err)
	}
	if mine[2] != opt(3, "c") || theirs[1] != opt(5, "e") {
		t.Errorf("Adopt changed the spare room: %v, %v", mine, theirs)
	}
	spoil(mine)
	spoil(theirs)
	for range 3 {
		has(t, "adopted", n, []api.Option{opt(1, "a"), opt(2, "b")}, []api.Option{opt(4, "d")})
		spoil(n.Mine())
		spoil(n.Theirs())
	}
	n = made(t, setup())
	n.Do(api.Up)
	spoilPackets(n.Do(api.Open))
	request, ack := pk(api.ConfReq, 8, opt(1, "\x00\x64")), pk(api.ConfAck, 1, ask()...)
	spoilPackets(n.Take(request))
	spoil(request.Options)
	spoilPackets(n.Take(ack))
	spoil(ack.Options)
	for range 3 {
		has(t, "agreed", n, ask(), []api.Option{opt(1, "\x00\x64")})
		spoil(n.Mine())
		spoil(n.Theirs())
	}
	spoilPackets(n.Take(bare(api.TermAck, 0, "")))
	says(t, "the request", n.Take(pk(api.ConfNak, 2)), pk(api.ConfReq, 3, ask()...))
}

func TestP1107NilAndZero(t *testing.T) {
	for what, n := range map[string]*Neg{"nil": nil, "zero": {}} {
		packets := []api.Packet{{}, bare(api.TermReq, 1, ""), bare(api.TermAck, 0, ""), bare(api.CodeRej, 0, "\x01"), bare(99, 0, "x"), pk(api.ConfNak, 0), pk(api.ConfRej, 0), pk(api.ConfReq, 7), pk(api.ConfAck, 0), pk(api.ConfAck, 1)}
		for _, event := range append(far(), api.Open, api.Up, api.Down, api.Close, api.Up, api.Open) {
			says(t, what, n.Do(event))
			for _, p := range packets {
				says(t, what, n.Take(p))
			}
			says(t, what, n.Tick())
			if err := n.Adopt(nil, nil); err != api.ErrArg {
				t.Errorf("%s: Adopt = %d", what, err)
			}
			if err := n.Adopt(many(31), many(31)); err != api.ErrArg {
				t.Errorf("%s: Adopt of too many = %d", what, err)
			}
			is(t, what, n, api.Initial)
			has(t, what, n, nil, nil)
			came(t, what, n, 0, 0)
		}
	}
}

// The counters of ups and downs end where the document says.
func TestP1105UpsStay(t *testing.T) {
	n := made(t, setup())
	n.ups, n.downs = 1<<62-1, 1<<62-1
	for range 3 {
		n.Adopt(nil, nil)
		n.Do(api.Down)
	}
	came(t, "2^62", n, 1<<62, 1<<62)
}
