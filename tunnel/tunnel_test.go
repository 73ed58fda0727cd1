package tunnel

import (
	"crypto/md5"
	"math"
	"slices"
	"strings"
	"testing"

	"tollgate/api"
	"tollgate/byhand"
	"tollgate/tape"
)

// P2101; and what the tests of all promises share.

func config() Config {
	return Config{Name: "near", Secret: "s", Id: 5, Window: 4, Queue: 10, Retry: 2, Wait: 3, Hello: 8}
}

// with tells config with something changed.
func with(change func(*Config)) Config {
	c := config()
	change(&c)
	return c
}

// bare tells config without a secret.
func bare() Config { return with(func(c *Config) { c.Secret = "" }) }

func made(t *testing.T, c Config, draws ...int) *Tunnel {
	t.Helper()
	e, err := New(c, tape.New(draws))
	if e == nil || err != api.OK {
		t.Fatalf("New(%v) = %v, %d", c, e, err)
	}
	return e
}

// count tells the numbers from, from + 1, .., n of them.
func count(from, n int) []int {
	var l []int
	for i := range n {
		l = append(l, from+i)
	}
	return l
}

// run tells them as bytes.
func run(from, n int) string {
	b := ""
	for _, v := range count(from, n) {
		b += string([]byte{byte(v)})
	}
	return b
}

// Values and messages by another hand than the program's.

func must(kind int, value string) string { return byhand.Value(32768, 0, kind, value) }

func kind(n int) string { return must(0, byhand.Word(n)) }

// about tells the values that an end says of itself.
func about(name string, id, window int) string {
	return must(2, "\x01\x00") + must(3, "\x00\x00\x00\x03") + must(7, name) + must(9, byhand.Word(id)) + must(10, byhand.Word(window))
}

func tied(tie string) string { return must(5, tie) }

func asks(challenge string) string { return must(11, challenge) }

func answers(kind byte, secret, challenge string) string {
	d := md5.Sum([]byte(string([]byte{kind}) + secret + challenge))
	return must(13, string(d[:]))
}

func stop(id, code int) string {
	return kind(4) + must(9, byhand.Word(id)) + must(1, byhand.Word(code))
}

// The peer by hand is far, of the id 9; its challenge is a question mark. more is what it says behind what it must.

func sccrq(more ...string) string { return kind(1) + about("far", 9, 4) + strings.Join(more, "") }

func sccrp(more ...string) string { return kind(2) + about("far", 9, 4) + strings.Join(more, "") }

func scccn(more ...string) string { return kind(3) + strings.Join(more, "") }

// end is an end, and the numbers which its peer by hand sends and awaits next.
type end struct {
	*Tunnel
	ns, nr int
}

// says tells the bytes of what the peer says next.
func (e *end) says(values string) string { return byhand.Ctl(e.config.Id, 0, e.ns, e.nr, values) }

// hears takes what the peer says next.
func (e *end) hears(values string) []api.Ctl {
	b := e.says(values)
	e.ns++
	return e.Take(b)
}

// drains lets the peer hear all that the end has to say, and ack it; it tells all of that.
func (e *end) drains() []string {
	var all []string
	for {
		l := e.Out()
		if len(l) == 0 {
			return all
		}
		all = append(all, l...)
		for _, b := range l {
			if len(b) > 12 {
				e.nr++
			}
		}
		e.Take(e.says(""))
	}
}

// Ends in each state, with nothing on its way; their draws are the numbers from 1 on.

func idle(t *testing.T, c Config) *end { return &end{Tunnel: made(t, c, count(1, 60)...)} }

// waitReply tells one that opened: its tie is run(1, 8), its challenge run(9, 16).
func waitReply(t *testing.T, c Config) *end {
	e := idle(t, c)
	e.Open()
	e.drains()
	return e
}

// waitConn tells one that was asked: its challenge is run(1, 16).
func waitConn(t *testing.T, c Config) *end {
	e := idle(t, c)
	e.hears(sccrq(dares(c)))
	e.drains()
	return e
}

// dares tells what the peer asks, if it has a secret.
func dares(c Config) string {
	if c.Secret == "" {
		return ""
	}
	return asks("?")
}

// knows tells what the peer answers, if it has a secret.
func knows(c Config, kind byte, challenge string) string {
	if c.Secret == "" {
		return ""
	}
	return answers(kind, c.Secret, challenge)
}

func liveOpened(t *testing.T, c Config) *end {
	e := waitReply(t, c)
	e.hears(sccrp(knows(c, 2, run(9, 16)), dares(c)))
	e.drains()
	return e
}

func liveAsked(t *testing.T, c Config) *end {
	e := waitConn(t, c)
	e.hears(scccn(knows(c, 3, run(1, 16))))
	e.drains()
	return e
}

func deadIdle(t *testing.T, c Config) *end {
	e := idle(t, c)
	e.Close()
	return e
}

func deadStopped(t *testing.T, c Config) *end {
	e := liveAsked(t, c)
	e.hears(stop(9, 1))
	e.Out()
	return e
}

func deadWaited(t *testing.T, c Config) *end {
	e := waitReply(t, c)
	ticks(e.Tunnel, 3*c.Hello)
	return e
}

func ticks(e *Tunnel, n int) {
	for range n {
		e.Tick()
	}
}

// start is a way to come to a state, and what is seen there.
type start struct {
	what string
	make func(*testing.T, Config) *end
	look look
	nr   int // so many messages were said
}

func starts() []start {
	return []start{
		{"Idle", idle, look{Idle, 5, 0, "", 10}, 0},
		{"WaitReply", waitReply, look{WaitReply, 5, 0, "", 10}, 1},
		{"WaitConn", waitConn, look{WaitConn, 5, 9, "far", 10}, 1},
		{"Live, opened", liveOpened, look{Live, 5, 9, "far", 10}, 2},
		{"Live, asked", liveAsked, look{Live, 5, 9, "far", 10}, 1},
		{"Dead, closed", deadIdle, look{Dead, 5, 0, "", 0}, 0},
		{"Dead, stopped", deadStopped, look{Dead, 5, 9, "far", 0}, 1},
		{"Dead, waited", deadWaited, look{Dead, 5, 0, "", 0}, 1},
	}
}

// everyStart does something in each state, with and without a secret.
func everyStart(t *testing.T, do func(s start, c Config, e *end)) {
	t.Helper()
	for _, c := range []Config{config(), bare()} {
		for _, s := range starts() {
			e := s.make(t, c)
			is(t, s.what, e.Tunnel, s.look)
			outs(t, s.what, e.Tunnel)
			if e.nr != s.nr {
				t.Errorf("%s: %d messages were said, not %d", s.what, e.nr, s.nr)
			}
			do(s, c, e)
		}
	}
}

// look is all that can be asked.
type look struct {
	state, id, peer int
	name            string
	room            int
}

func seen(e *Tunnel) look {
	id, peer := e.Ids()
	return look{e.State(), id, peer, e.Peer(), e.Room()}
}

func is(t *testing.T, what string, e *Tunnel, want look) {
	t.Helper()
	if got := seen(e); got != want {
		t.Errorf("%s: %+v, not %+v", what, got, want)
	}
}

// outs holds what is to be sent.
func outs(t *testing.T, what string, e *Tunnel, want ...string) {
	t.Helper()
	if got := e.Out(); !slices.Equal(got, want) {
		t.Errorf("%s: Out() = %x, not %x", what, got, want)
	}
}

// takes holds what is told of what came.
func takes(t *testing.T, what string, e *Tunnel, b string, want ...api.Ctl) {
	t.Helper()
	got := e.Take(b)
	if !slices.EqualFunc(got, want, sameCtl) {
		t.Errorf("%s: Take(%x) = %v, not %v", what, b, got, want)
	}
}

func sameCtl(a, b api.Ctl) bool {
	return a.Tunnel == b.Tunnel && a.Session == b.Session && a.Ns == b.Ns && a.Nr == b.Nr && slices.Equal(a.Avps, b.Avps)
}

func TestP2101New(t *testing.T) {
	for _, change := range []func(*Config){
		func(c *Config) {},
		func(c *Config) { c.Name = "n" },
		func(c *Config) { c.Name = "\x00" },
		func(c *Config) { c.Name = strings.Repeat("\xff", 40) },
		func(c *Config) { c.Secret = "" },
		func(c *Config) { c.Secret = "\x00" },
		func(c *Config) { c.Secret = strings.Repeat("\xff", 60) },
		func(c *Config) { c.Id = 1 },
		func(c *Config) { c.Id = 65535 },
		func(c *Config) { c.Hello = 1 },
		func(c *Config) { c.Hello = 1000 },
		func(c *Config) { c.Window = 1 },
		func(c *Config) { c.Window = 64 },
		func(c *Config) { c.Queue = 1 },
		func(c *Config) { c.Queue = 40 },
		func(c *Config) { c.Retry = 0 },
		func(c *Config) { c.Retry = 10 },
		func(c *Config) { c.Wait = 1 },
		func(c *Config) { c.Wait = 100 },
	} {
		c := with(change)
		for _, draws := range []*tape.Tape{nil, {}, tape.New(nil), tape.New([]int{1, 2})} {
			left := draws.Left()
			e, err := New(c, draws)
			if e == nil || err != api.OK {
				t.Fatalf("New(%v) = %v, %d", c, e, err)
			}
			is(t, "New", e, look{Idle, c.Id, 0, "", c.Queue})
			outs(t, "New", e)
			if draws.Left() != left {
				t.Errorf("New(%v) draws", c)
			}
		}
	}
}

// Each field beyond its edges alone, and with each other one beyond its own.
func TestP2101NewOfWrong(t *testing.T) {
	refused := func(c Config) {
		t.Helper()
		for _, draws := range []*tape.Tape{nil, tape.New([]int{1, 2})} {
			if e, err := New(c, draws); e != nil || err != api.ErrArg {
				t.Errorf("New(%v) = %v, %d, not ErrArg", c, e, err)
			}
			if draws != nil && draws.Left() != 2 {
				t.Errorf("New(%v) draws", c)
			}
		}
	}
	var wrong [][]func(*Config)
	numbers := func(place func(*Config) *int, l ...int) {
		var one []func(*Config)
		for _, v := range append(l, -1, 1<<32+1, math.MinInt, math.MaxInt) {
			one = append(one, func(c *Config) { *place(c) = v })
		}
		wrong = append(wrong, one)
	}
	wrong = append(wrong,
		[]func(*Config){func(c *Config) { c.Name = "" }, func(c *Config) { c.Name = strings.Repeat("n", 41) }, func(c *Config) { c.Name = strings.Repeat("n", 1000) }},
		[]func(*Config){func(c *Config) { c.Secret = strings.Repeat("s", 61) }, func(c *Config) { c.Secret = strings.Repeat("s", 1000) }})
	numbers(func(c *Config) *int { return &c.Id }, 0, 65536, 65541)
	numbers(func(c *Config) *int { return &c.Hello }, 0, 1001)
	numbers(func(c *Config) *int { return &c.Window }, 0, 65)
	numbers(func(c *Config) *int { return &c.Queue }, 0, 41)
	numbers(func(c *Config) *int { return &c.Retry }, 11)
	numbers(func(c *Config) *int { return &c.Wait }, 0, 101)
	for i, l := range wrong {
		for _, one := range l {
			refused(with(one))
			for _, other := range wrong[i+1:] {
				for _, two := range other {
					refused(with(func(c *Config) { one(c); two(c) }))
				}
			}
		}
	}
	refused(Config{})
}

// What New is given is what it goes by: the window as long as the peer tells none, the queue, the retries, the wait.
func TestP2101NewKeeps(t *testing.T) {
	for _, window := range []int{1, 2, 7, 40} {
		c := with(func(c *Config) { c.Window, c.Queue, c.Secret = window, 40, "" })
		e := idle(t, c)
		e.hears(kind(1) + must(2, "\x01\x00") + must(3, "1234") + must(7, "far") + must(9, "\x00\x09"))
		e.drains()
		e.hears(scccn())
		e.drains()
		for range 100 {
			e.Send(0, nil)
			e.Out()
			e.nr++
			e.Take(e.says(""))
		}
		for range 40 {
			e.Send(0, nil)
		}
		if got := len(e.Out()); got != window {
			t.Errorf("a window of %d: %d fly", window, got)
		}
	}
	for _, queue := range []int{1, 2, 39, 40} {
		e := liveOpened(t, with(func(c *Config) { c.Queue = queue }))
		for n := range queue {
			is(t, "a queue", e.Tunnel, look{Live, 5, 9, "far", queue - n})
			if err := e.Send(0, nil); err != api.OK {
				t.Errorf("Send of the message %d to a queue of %d = %d", n, queue, err)
			}
		}
		is(t, "a queue", e.Tunnel, look{Live, 5, 9, "far", 0})
		if err := e.Send(0, nil); err != api.ErrFull {
			t.Errorf("Send to a queue of %d that is full = %d", queue, err)
		}
	}
	for _, retry := range []int{0, 1, 2, 10} {
		for _, wait := range []int{1, 2, 100} {
			e := made(t, with(func(c *Config) { c.Retry, c.Wait, c.Hello = retry, wait, 1000 }))
			e.Open()
			e.Out()
			n := 0
			for e.State() != Dead && n < 4000 {
				e.Tick()
				n++
			}
			all := []int{1, 3, 7, 15, 23, 31, 39, 47, 55, 63, 71}[retry] * wait
			if n != min(all, 3000) {
				t.Errorf("%d retries of %d ticks: Dead behind %d, not %d", retry, wait, n, min(all, 3000))
			}
		}
	}
}

// Without draws all that is drawn is noughts, as a nil tape tells.
func TestP2101NewNilDraws(t *testing.T) {
	e, _ := New(config(), nil)
	e.Open()
	noughts := strings.Repeat("\x00", 24)
	outs(t, "Open", e, byhand.Ctl(0, 0, 0, 0, kind(1)+about("near", 5, 4)+tied(noughts[:8])+asks(noughts[8:])))
	e, _ = New(config(), nil)
	takes(t, "Sccrq", e, byhand.Ctl(0, 0, 0, 0, sccrq(asks("?"))))
	outs(t, "Sccrp", e, byhand.Ctl(9, 0, 0, 1, kind(2)+about("near", 5, 4)+answers(2, "s", "?")+asks(noughts[:16])))
}

func TestP2101NewEachItsOwn(t *testing.T) {
	draws := tape.New(count(1, 60))
	a, _ := New(config(), draws)
	b, _ := New(config(), draws)
	a.Open()
	is(t, "a", a, look{WaitReply, 5, 0, "", 9})
	is(t, "b", b, look{Idle, 5, 0, "", 10})
	outs(t, "b", b)
	b.Open() // the draws go on where a ended
	outs(t, "b", b, byhand.Ctl(0, 0, 0, 0, kind(1)+about("near", 5, 4)+tied(run(25, 8))+asks(run(33, 16))))
	outs(t, "a", a, byhand.Ctl(0, 0, 0, 0, kind(1)+about("near", 5, 4)+tied(run(1, 8))+asks(run(9, 16))))
}
