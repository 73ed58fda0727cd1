package lcp

import (
	"math"
	"slices"
	"strings"
	"testing"

	"tollgate/api"
	"tollgate/tape"
)

// P1201, and what the tests of all promises share.

const (
	byPap  = "\xc0\x23"
	byChap = "\xc2\x23\x05"
	seven  = "\x00\x00\x00\x07" // config's Magic
	nought = "\x00\x00\x00\x00"
	most   = "\xff\xff\xff\xff"
	usual  = "\x05\xd4" // 1492
)

var states = []string{"Initial", "Starting", "Closed", "Stopped", "Closing", "Stopping", "ReqSent", "AckRcvd", "AckSent", "Opened"}

func config() Config {
	return Config{Mru: 1492, Magic: 7, Configure: 3, Terminate: 2, Fails: 2, Wait: 2}
}

// with tells config with something else in it.
func with(change func(*Config)) Config {
	c := config()
	change(&c)
	return c
}

func opt(kind int, value string) api.Option { return api.Option{Type: kind, Value: value} }

func magic(value string) api.Option { return opt(5, value) }

func pk(code, id int, l ...api.Option) api.Packet {
	return api.Packet{Code: code, Id: id, Options: l}
}

func bare(code, id int, data string) api.Packet { return api.Packet{Code: code, Id: id, Data: data} }

// made makes a link.
func made(t *testing.T, c Config, draws *tape.Tape) *Lcp {
	t.Helper()
	l, err := New(c, draws)
	if l == nil || err != api.OK {
		t.Fatalf("New(%+v) = %v, %d", c, l, err)
	}
	return l
}

// in makes a link in a state, whose only ConfReq had the Id 1; those in Closed and Closing said a TermReq 2 as well.
func in(t *testing.T, c Config, state int, draws ...int) *Lcp {
	t.Helper()
	return on(t, c, state, tape.New(draws))
}

// on is in, with draws of which something is to be asked.
func on(t *testing.T, c Config, state int, draws *tape.Tape) *Lcp {
	t.Helper()
	l := made(t, c, draws)
	l.Do(api.Up)
	l.Do(api.Open)
	acks, acked := func() { l.Take(pk(api.ConfReq, 77)) }, func() { l.Take(pk(api.ConfAck, 1, Options(c)...)) }
	steps := [][]func(){
		api.Initial:  {func() { l.Do(api.Down) }, func() { l.Do(api.Close) }},
		api.Starting: {func() { l.Do(api.Down) }},
		api.Closed:   {func() { l.Do(api.Close) }, func() { l.Take(bare(api.TermAck, 2, "")) }},
		api.Stopped:  {func() { l.Take(bare(api.CodeRej, 5, "\x01")) }},
		api.Closing:  {func() { l.Do(api.Close) }},
		api.Stopping: {acks, acked, func() { l.Take(bare(api.TermReq, 5, "")) }},
		api.ReqSent:  {},
		api.AckRcvd:  {acked},
		api.AckSent:  {acks},
		api.Opened:   {acks, acked},
	}
	for _, step := range steps[state] {
		step()
	}
	is(t, "on the way", l, state)
	return l
}

// used tells the last Id that a link of in used.
func used(state int) int {
	if state == api.Closed || state == api.Closing {
		return 2
	}
	return 1
}

// is holds a link's state against what it should be.
func is(t *testing.T, what string, l *Lcp, state int) {
	t.Helper()
	if got := l.State(); got != state {
		t.Fatalf("%s: State() = %d, not %s", what, got, states[state])
	}
}

// has holds what was acked against what it should be.
func has(t *testing.T, what string, l *Lcp, mine, theirs []api.Option) {
	t.Helper()
	if a, b := l.Mine(), l.Theirs(); !slices.Equal(a, mine) || !slices.Equal(b, theirs) {
		t.Errorf("%s: Mine() = %v, Theirs() = %v, not %v, %v", what, a, b, mine, theirs)
	}
}

// came holds how often it came up and down against what it should be.
func came(t *testing.T, what string, l *Lcp, ups, downs int) {
	t.Helper()
	if u, d := l.Ups(); u != ups || d != downs {
		t.Errorf("%s: Ups() = %d, %d, not %d, %d", what, u, d, ups, downs)
	}
}

// looped holds how often a link heard itself against what it should be.
func looped(t *testing.T, what string, l *Lcp, want int) {
	t.Helper()
	if got := l.Loops(); got != want {
		t.Errorf("%s: Loops() = %d, not %d", what, got, want)
	}
}

// left holds how many draws are left against how many should be.
func left(t *testing.T, what string, draws *tape.Tape, want int) {
	t.Helper()
	if got := draws.Left(); got != want {
		t.Errorf("%s: %d draws are left, not %d", what, got, want)
	}
}

// says holds packets against what they should be; nil and an empty list mean the same.
func says(t *testing.T, what string, got []api.Packet, want ...api.Packet) {
	t.Helper()
	alike := func(a, b api.Packet) bool {
		return a.Code == b.Code && a.Id == b.Id && a.Data == b.Data && slices.Equal(a.Options, b.Options)
	}
	if !slices.EqualFunc(got, want, alike) {
		t.Errorf("%s: %v, not %v", what, got, want)
	}
}

func TestP1201Example(t *testing.T) {
	got := Options(Config{Mru: 1492, Auth: api.ProtoChap, Magic: 7})
	if want := []api.Option{opt(3, byChap), opt(5, seven)}; !slices.Equal(got, want) {
		t.Errorf("Options = %v, not %v", got, want)
	}
}

// Each of the three, asked for and not, in every company.
func TestP1201Options(t *testing.T) {
	mrus := map[int]string{1492: "", 64: "\x00\x40", 255: "\x00\xff", 256: "\x01\x00", 1491: "\x05\xd3"}
	auths := map[int]string{0: "", api.ProtoPap: byPap, api.ProtoChap: byChap}
	magics := map[int]string{0: "", 1: "\x00\x00\x00\x01", 7: seven, 0x01020304: "\x01\x02\x03\x04", 1 << 31: "\x80\x00\x00\x00", 1<<32 - 1: most}
	for mru, one := range mrus {
		for auth, three := range auths {
			for number, five := range magics {
				var want []api.Option
				for _, o := range []api.Option{opt(1, one), opt(3, three), opt(5, five)} {
					if o.Value != "" {
						want = append(want, o)
					}
				}
				c := Config{Mru: mru, Auth: auth, Magic: number, Configure: 1, Terminate: 1, Wait: 1}
				if got := Options(c); !slices.Equal(got, want) {
					t.Errorf("Options(%+v) = %v, not %v", c, got, want)
				}
				l := made(t, c, nil)
				l.Do(api.Open)
				says(t, "what is asked for", l.Do(api.Up), pk(api.ConfReq, 1, want...))
			}
		}
	}
}

// Of what New refuses Options still tells something: the Types that are asked for, each in so many bytes.
func TestP1201OptionsOfAnyNumbers(t *testing.T) {
	far := []int{math.MinInt, -1 << 32, -1492, -1, 0, 1, 2, 63, 1493, 65535, 65536 + 1492, 1 << 32, 1<<32 + api.ProtoPap, math.MaxInt}
	for _, v := range far {
		got := Options(Config{Mru: v, Auth: v, Magic: v})
		if v == 0 {
			if want := []api.Option{opt(1, "\x00\x00")}; !slices.Equal(got, want) {
				t.Errorf("Options of %d = %v", v, got)
			}
			continue
		}
		if len(got) != 3 || got[0].Type != 1 || len(got[0].Value) != 2 || got[1].Type != 3 || got[2].Type != 5 || len(got[2].Value) != 4 {
			t.Errorf("Options of %d = %v", v, got)
		}
	}
}

// The other numbers of a Config are none that options hang on.
func TestP1201OptionsOfTheRest(t *testing.T) {
	c := Config{Mru: 100, Auth: api.ProtoPap, Magic: 9, Echo: -5, Configure: -6, Terminate: 1 << 40, Fails: -1, Wait: 900}
	want := []api.Option{opt(1, "\x00\x64"), opt(3, byPap), opt(5, "\x00\x00\x00\x09")}
	for range 3 {
		got := Options(c)
		if !slices.Equal(got, want) {
			t.Errorf("Options = %v, not %v", got, want)
		}
		spoil(got) // which is new memory each time
	}
}

func TestP1201New(t *testing.T) {
	for _, x := range []struct {
		what        string
		least, most int
		set         func(*Config, int)
	}{
		{"Mru", 64, 1492, func(c *Config, v int) { c.Mru = v }},
		{"Magic", 0, 1<<32 - 1, func(c *Config, v int) { c.Magic = v }},
		{"Echo", 0, 100, func(c *Config, v int) { c.Echo = v }},
		{"Configure", 1, 20, func(c *Config, v int) { c.Configure = v }},
		{"Terminate", 1, 20, func(c *Config, v int) { c.Terminate = v }},
		{"Fails", 0, 20, func(c *Config, v int) { c.Fails = v }},
		{"Wait", 1, 100, func(c *Config, v int) { c.Wait = v }},
	} {
		near := []int{x.least - 2, x.least - 1, x.least, x.least + 1, x.most - 1, x.most, x.most + 1, x.most + 2}
		far := []int{math.MinInt, math.MinInt + 5, -(1 << 32) + 5, 1<<32 + 70, 1<<40 + 70, math.MaxInt}
		for _, v := range append(near, far...) {
			good := v >= x.least && v <= x.most
			for _, draws := range []*tape.Tape{nil, {}, tape.New([]int{1, 2})} {
				l, err := New(with(func(c *Config) { x.set(c, v) }), draws)
				if good && (l == nil || err != api.OK) || !good && (l != nil || err != api.ErrArg) {
					t.Errorf("New with %s %d = %v, %d", x.what, v, l, err)
				}
				if good {
					is(t, x.what, l, api.Initial)
					has(t, x.what, l, nil, nil)
					came(t, x.what, l, 0, 0)
					looped(t, x.what, l, 0)
				}
			}
		}
	}
}

func TestP1201NewAuth(t *testing.T) {
	for _, v := range []int{0, api.ProtoPap, api.ProtoChap} {
		made(t, with(func(c *Config) { c.Auth = v }), nil)
	}
	far := []int{math.MinInt, -1, 1, 2, 3, 5, api.ProtoLcp, api.ProtoIp, api.ProtoIpcp, 1 << 16, 0xc22305, 1<<32 + 1, 1 << 40, math.MaxInt}
	for _, v := range []int{api.ProtoPap, api.ProtoChap} {
		far = append(far, v-1, v+1, -v, v+1<<16, v+1<<32, v-1<<32)
	}
	for _, v := range far {
		if l, err := New(with(func(c *Config) { c.Auth = v }), nil); l != nil || err != api.ErrArg {
			t.Errorf("New with Auth %d = %v, %d", v, l, err)
		}
	}
}

// Nothing is drawn for being made; two links of one Config know nothing of each other.
func TestP1201EachItsOwn(t *testing.T) {
	draws := tape.New([]int{1, 2, 3, 4, 5, 6, 7, 8})
	a, b := made(t, config(), draws), made(t, config(), draws)
	left(t, "New", draws, 8)
	for _, l := range []*Lcp{a, b} {
		l.Do(api.Up)
		l.Do(api.Open)
	}
	a.Take(pk(api.ConfNak, 1, magic("\x00\x00\x00\x09")))
	says(t, "a nak", a.Take(pk(api.ConfReq, 3, magic(seven))), pk(api.ConfAck, 3, magic(seven)))
	says(t, "the other one", b.Take(pk(api.ConfReq, 3, magic(seven))), pk(api.ConfNak, 3, magic("\x01\x02\x03\x04")))
	looped(t, "the one", a, 0)
	looped(t, "the other one", b, 1)
	// The tape is one: what the one draws is gone for the other.
	says(t, "the one", a.Take(pk(api.ConfReq, 4, magic(nought))), pk(api.ConfNak, 4, magic("\x05\x06\x07\x08")))
	left(t, "both", draws, 0)
}

// What the peer's naks and rejects may change, and what not.
func TestP1201Own(t *testing.T) {
	c := with(func(c *Config) { c.Mru, c.Auth = 1000, api.ProtoPap })
	one, three, five := opt(1, "\x03\xe8"), opt(3, byPap), opt(5, seven)
	for _, x := range []struct {
		what string
		nak  api.Option
		want []api.Option
	}{
		{"a unit below the least", opt(1, "\x00\x3f"), []api.Option{three, five}},
		{"the least unit", opt(1, "\x00\x40"), []api.Option{opt(1, "\x00\x40"), three, five}},
		{"the greatest unit", opt(1, usual), []api.Option{opt(1, usual), three, five}},
		{"a unit above the greatest", opt(1, "\x05\xd5"), []api.Option{three, five}},
		{"a unit of a byte", opt(1, "\x40"), []api.Option{three, five}},
		{"a unit of three bytes", opt(1, "\x00\x00\x40"), []api.Option{three, five}},
		{"PAP", opt(3, byPap), []api.Option{one, three, five}},
		{"CHAP", opt(3, byChap), []api.Option{one, three, five}},
		{"nothing of authentication", opt(3, ""), []api.Option{one, three, five}},
		{"a Magic of 0", opt(5, nought), []api.Option{one, three}},
		{"a Magic of 1", opt(5, "\x00\x00\x00\x01"), []api.Option{one, three, opt(5, "\x00\x00\x00\x01")}},
		{"the greatest Magic", opt(5, most), []api.Option{one, three, opt(5, most)}},
		{"a Magic of three bytes", opt(5, "\x00\x00\x07"), []api.Option{one, three}},
		{"a Magic of five bytes", opt(5, "\x00\x00\x00\x00\x07"), []api.Option{one, three}},
		{"what is not asked for", opt(8, "x"), []api.Option{one, three, five}},
	} {
		says(t, x.what, in(t, c, api.ReqSent).Take(pk(api.ConfNak, 1, x.nak)), pk(api.ConfReq, 2, x.want...))
	}
	says(t, "a reject", in(t, c, api.ReqSent).Take(pk(api.ConfRej, 1, one, five)), pk(api.ConfReq, 2, three))
	for _, x := range [][]api.Option{{three}, {one, three}, {one, three, five}} {
		l := in(t, c, api.ReqSent)
		says(t, "authentication rejected", l.Take(pk(api.ConfRej, 1, x...)))
		is(t, "authentication rejected", l, api.Stopped)
	}
	l := in(t, c, api.Opened)
	says(t, "authentication rejected in Opened", l.Take(pk(api.ConfRej, 1, three)), bare(api.TermReq, 2, ""))
	is(t, "authentication rejected in Opened", l, api.Stopping)
}

// The numbers of negotiation are handed down: tries, naks and the waiting.
func TestP1201TheRestAsItStands(t *testing.T) {
	l := in(t, with(func(c *Config) { c.Configure, c.Wait = 2, 3 }), api.ReqSent)
	ticks(t, "waiting", l, 2)
	says(t, "Wait", l.Tick(), pk(api.ConfReq, 2, magic(seven)))
	ticks(t, "the last", l, 2)
	is(t, "the last", l, api.ReqSent)
	ticks(t, "the last", l, 1)
	is(t, "the last", l, api.Stopped)

	l = in(t, with(func(c *Config) { c.Terminate, c.Wait = 3, 1 }), api.Closing)
	says(t, "Terminate", l.Tick(), bare(api.TermReq, 3, ""))
	says(t, "Terminate", l.Tick(), bare(api.TermReq, 4, ""))
	says(t, "Terminate", l.Tick())
	is(t, "Terminate", l, api.Closed)
}

// ticks holds that nothing is sent for some ticks.
func ticks(t *testing.T, what string, l *Lcp, n int) {
	t.Helper()
	for i := range n {
		says(t, what+": a tick", l.Tick())
		if t.Failed() {
			t.Fatalf("%s: it was the tick %d of %d", what, i+1, n)
		}
	}
}

// spoil changes all of a list, its spare room too.
func spoil(l []api.Option) {
	for i := range l[:cap(l)] {
		l[:cap(l)][i] = opt(-9, "spoilt")
	}
}

// spoilPackets changes packets, their lists, and all spare room.
func spoilPackets(l []api.Packet) {
	for i := range l {
		spoil(l[i].Options)
	}
	for i := range l[:cap(l)] {
		l[:cap(l)][i] = bare(-9, -9, strings.Repeat("s", 9))
	}
}
