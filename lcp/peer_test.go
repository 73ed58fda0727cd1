package lcp

import (
	"testing"

	"tollgate/api"
	"tollgate/tape"
)

// P1202: what the peer may ask for, and hearing oneself.

func TestP1202Example(t *testing.T) {
	l := in(t, config(), api.ReqSent, 10, 20, 30, 40)
	says(t, "this end's Magic", l.Take(pk(api.ConfReq, 1, magic(seven))), pk(api.ConfNak, 1, magic("\x0a\x14\x1e\x28")))
}

// The peer's options, one by one: each value that fits, and each beside it.
func TestP1202TheValuesOfThePeer(t *testing.T) {
	ack, nak, rej := api.ConfAck, api.ConfNak, api.ConfRej
	for _, x := range []struct {
		what  string
		asked api.Option
		code  int
		named string
	}{
		{"a unit of 63", opt(1, "\x00\x3f"), nak, usual},
		{"a unit of 64", opt(1, "\x00\x40"), ack, ""},
		{"a unit of 1492", opt(1, usual), ack, ""},
		{"a unit of 1493", opt(1, "\x05\xd5"), ack, ""},
		{"a unit of 65535", opt(1, "\xff\xff"), ack, ""},
		{"a unit of 0", opt(1, "\x00\x00"), nak, usual},
		{"a unit of no byte", opt(1, ""), nak, usual},
		{"a unit of one byte", opt(1, "\x64"), nak, usual},
		{"a unit of three bytes", opt(1, "\x00\x00\x64"), nak, usual},
		{"PAP", opt(3, byPap), ack, ""},
		{"CHAP", opt(3, byChap), ack, ""},
		{"PAP, a byte more", opt(3, byPap+"\x00"), nak, byChap},
		{"PAP, CHAP's byte more", opt(3, byPap+"\x05"), nak, byChap},
		{"PAP, a nought ahead", opt(3, "\x00"+byPap), nak, byChap},
		{"PAP, a byte fewer", opt(3, "\xc0"), nak, byChap},
		{"PAP's number and one", opt(3, "\xc0\x24"), nak, byChap},
		{"PAP's number less one", opt(3, "\xc0\x22"), nak, byChap},
		{"CHAP, a byte more", opt(3, byChap+"\x00"), nak, byChap},
		{"CHAP, a nought ahead", opt(3, "\x00"+byChap), nak, byChap},
		{"CHAP, a byte fewer", opt(3, "\xc2\x23"), nak, byChap},
		{"CHAP by another digest", opt(3, "\xc2\x23\x80"), nak, byChap},
		{"CHAP by digest 4", opt(3, "\xc2\x23\x04"), nak, byChap},
		{"CHAP by digest 6", opt(3, "\xc2\x23\x06"), nak, byChap},
		{"no authentication", opt(3, ""), nak, byChap},
		{"EAP", opt(3, "\xc2\x27"), nak, byChap},
		{"eight bytes, the last being PAP's", opt(3, "\x00\x00\x00\x00\x00\x00"+byPap), nak, byChap},
		{"a Magic of 0", magic(nought), nak, "\x01\x02\x03\x04"},
		{"a Magic of 1", magic("\x00\x00\x00\x01"), ack, ""},
		{"a Magic of 6", magic("\x00\x00\x00\x06"), ack, ""},
		{"a Magic of 8", magic("\x00\x00\x00\x08"), ack, ""},
		{"the greatest Magic", magic(most), ack, ""},
		{"a Magic of no byte", magic(""), nak, "\x01\x02\x03\x04"},
		{"a Magic of three bytes", magic("abc"), nak, "\x01\x02\x03\x04"},
		{"a Magic of five bytes", magic("abcde"), nak, "\x01\x02\x03\x04"},
		{"Type 0", opt(0, ""), rej, ""},
		{"Type 2", opt(2, "\x00\x00\x00\x00"), rej, ""},
		{"Type 4", opt(4, "\xc0\x25"), rej, ""},
		{"Type 7", opt(7, ""), rej, ""},
		{"Type 257, like a unit in its low bits", opt(257, usual), rej, ""},
		{"Type -5", opt(-5, seven), rej, ""},
	} {
		draws := tape.New([]int{1, 2, 3, 4})
		l := on(t, config(), api.ReqSent, draws)
		want := x.asked
		if x.code == nak {
			want.Value = x.named
		}
		says(t, x.what, l.Take(pk(api.ConfReq, 9, x.asked)), pk(x.code, 9, want))
		looped(t, x.what, l, 0)
		drawn := 0
		if x.code == nak && x.asked.Type == 5 {
			drawn = 4
		}
		left(t, x.what, draws, 4-drawn)
	}
}

// It is only the whole of this end's Magic that loops, and only where this end has one.
func TestP1202Loops(t *testing.T) {
	for _, x := range []struct {
		what  string
		magic int
		asked []api.Option
		want  int
	}{
		{"its own", 7, []api.Option{magic(seven)}, 1},
		{"its own, of 1", 1, []api.Option{magic("\x00\x00\x00\x01")}, 1},
		{"its own, the greatest", 1<<32 - 1, []api.Option{magic(most)}, 1},
		{"its own behind another one", 7, []api.Option{opt(1, usual), magic(seven)}, 1},
		{"its own, and what has no rule", 7, []api.Option{magic(seven), opt(9, "")}, 1},
		{"its own twice: one request", 7, []api.Option{magic(seven), magic(seven)}, 1},
		{"its own behind another Magic", 7, []api.Option{magic("abcd"), magic(seven)}, 1},
		{"another one", 7, []api.Option{magic("\x00\x00\x00\x08")}, 0},
		{"another one, alike in the low byte", 7, []api.Option{magic("\x01\x00\x00\x07")}, 0},
		{"its number in a byte", 7, []api.Option{magic("\x07")}, 0},
		{"its number in three bytes", 7, []api.Option{magic("\x00\x00\x07")}, 0},
		{"its number in five bytes", 7, []api.Option{magic("\x00\x00\x00\x00\x07")}, 0},
		{"its bytes in another option", 7, []api.Option{opt(4, seven), opt(3, seven)}, 0},
		{"none", 7, nil, 0},
		{"0, where this end has none", 0, []api.Option{magic(nought)}, 0},
		{"7, where this end has none", 0, []api.Option{magic(seven)}, 0},
	} {
		for state, name := range states {
			l := in(t, with(func(c *Config) { c.Magic = x.magic }), state)
			l.Take(pk(api.ConfReq, 9, x.asked...))
			looped(t, name+": "+x.what, l, x.want)
		}
	}
}

// Where this end has no Magic, all but 0 fits.
func TestP1202WithoutAMagic(t *testing.T) {
	l := in(t, with(func(c *Config) { c.Magic = 0 }), api.ReqSent, 9, 8, 7, 6)
	says(t, "7", l.Take(pk(api.ConfReq, 1, magic(seven))), pk(api.ConfAck, 1, magic(seven)))
	says(t, "0", l.Take(pk(api.ConfReq, 2, magic(nought))), pk(api.ConfNak, 2, magic("\x09\x08\x07\x06")))
	looped(t, "0", l, 0)
}

// Judge's order: what has no rule or stands twice ahead of what does not fit, that ahead of all; each in its place.
func TestP1202TheOrder(t *testing.T) {
	one, three := opt(1, "\x00\x01"), opt(3, "\xc2\x23\x80")
	for _, x := range []struct {
		what  string
		asked []api.Option
		want  api.Packet
		drawn int
	}{
		{"no rule and its own", []api.Option{magic(seven), opt(9, "x"), one}, pk(api.ConfRej, 4, opt(9, "x")), 0},
		{"its own twice", []api.Option{magic(seven), magic(seven)}, pk(api.ConfRej, 4, magic(seven)), 0},
		{"another one, and its own", []api.Option{magic("abcd"), magic(seven)}, pk(api.ConfRej, 4, magic(seven)), 0},
		{"PAP and CHAP", []api.Option{opt(3, byPap), opt(3, byChap)}, pk(api.ConfRej, 4, opt(3, byChap)), 0},
		{"CHAP and PAP", []api.Option{opt(3, byChap), opt(3, byPap)}, pk(api.ConfRej, 4, opt(3, byPap)), 0},
		{"all that do not fit", []api.Option{magic(seven), three, one}, pk(api.ConfNak, 4, magic("\x01\x02\x03\x04"), opt(3, byChap), opt(1, usual)), 4},
		{"some of them", []api.Option{one, opt(3, byPap), magic(nought)}, pk(api.ConfNak, 4, opt(1, usual), magic("\x01\x02\x03\x04")), 4},
		{"others than the Magic", []api.Option{one, magic("abcd"), three}, pk(api.ConfNak, 4, opt(1, usual), opt(3, byChap)), 0},
		{"none", []api.Option{opt(3, byPap), magic("abcd"), opt(1, "\x00\x40")}, pk(api.ConfAck, 4, opt(3, byPap), magic("abcd"), opt(1, "\x00\x40")), 0},
	} {
		draws := tape.New([]int{1, 2, 3, 4, 5})
		l := on(t, config(), api.ReqSent, draws)
		says(t, x.what, l.Take(pk(api.ConfReq, 4, x.asked...)), x.want)
		left(t, x.what, draws, 5-x.drawn)
	}
}

// A drawn Magic is never 0, and otherwise whatever was drawn, this end's own, too.
func TestP1202Drawn(t *testing.T) {
	for _, x := range []struct {
		what  string
		draws []int
		want  string
	}{
		{"noughts", []int{0, 0, 0, 0}, "\x00\x00\x00\x01"},
		{"noughts modulo 256", []int{256, -256, 1 << 40, 512}, "\x00\x00\x00\x01"},
		{"noughts but the first", []int{1, 0, 0, 0}, "\x01\x00\x00\x00"},
		{"noughts but the last", []int{0, 0, 0, 2}, "\x00\x00\x00\x02"},
		{"modulo 256", []int{257, -1, 511, 300}, "\x01\xff\xff\x2c"},
		{"this end's own", []int{0, 0, 0, 7}, seven},
		{"a tape that ends", []int{200, 100}, "\xc8\x64\x07\x0e"},
		{"an empty tape", nil, "\x07\x0e\x15\x1c"},
	} {
		l := in(t, config(), api.ReqSent, x.draws...)
		says(t, x.what, l.Take(pk(api.ConfReq, 4, magic(nought))), pk(api.ConfNak, 4, magic(x.want)))
	}
}

// No tape is an empty one.
func TestP1202NilDraws(t *testing.T) {
	for what, draws := range map[string]*tape.Tape{"nil": nil, "zero": {}, "empty": tape.New(nil)} {
		l := made(t, config(), draws)
		l.Do(api.Open)
		l.Do(api.Up)
		says(t, what, l.Take(pk(api.ConfReq, 4, magic(nought))), pk(api.ConfNak, 4, magic("\x07\x0e\x15\x1c")))
		says(t, what, l.Take(pk(api.ConfReq, 5, magic(nought))), pk(api.ConfNak, 5, magic("\x23\x2a\x31\x38")))
	}
}

// Once for each request, whatever the automaton does with it.
func TestP1202DrawnInEveryState(t *testing.T) {
	for state, name := range states {
		draws := tape.New(make([]int, 20))
		l := on(t, config(), state, draws)
		l.Take(pk(api.ConfReq, 1, magic(nought)))
		left(t, name, draws, 16)
		l.Take(pk(api.ConfReq, 2, magic(seven), opt(1, "")))
		left(t, name, draws, 12)
		l.Take(pk(api.ConfReq, 3, magic("abcd"), opt(1, "")))
		l.Take(pk(api.ConfReq, 4, magic(nought), opt(9, "")))
		l.Take(pk(api.ConfReq, 5, magic(nought), magic(nought)))
		l.Take(pk(api.ConfReq, 6, magic("abcd")))
		l.Take(pk(api.ConfNak, 1, magic(nought)))
		l.Take(pk(api.ConfRej, 1, magic(nought)))
		left(t, name+", where no Magic is named", draws, 12)
	}
}

// Behind Fails naks it is rejected, with what was asked for; it is drawn all the same.
func TestP1202BehindFails(t *testing.T) {
	draws := tape.New(make([]int, 40))
	l := on(t, with(func(c *Config) { c.Fails = 2 }), api.ReqSent, draws)
	one := opt(1, "\x00\x01")
	for id := range 2 {
		says(t, "a nak", l.Take(pk(api.ConfReq, id, magic(nought), one)), pk(api.ConfNak, id, magic("\x00\x00\x00\x01"), opt(1, usual)))
	}
	left(t, "two naks", draws, 32)
	says(t, "0", l.Take(pk(api.ConfReq, 5, one, magic(nought))), pk(api.ConfRej, 5, one, magic(nought)))
	left(t, "0", draws, 28)
	says(t, "its own", l.Take(pk(api.ConfReq, 6, magic(seven), opt(3, byPap))), pk(api.ConfRej, 6, magic(seven)))
	left(t, "its own", draws, 24)
	says(t, "PAP and more", l.Take(pk(api.ConfReq, 7, opt(3, byPap+"\x00"))), pk(api.ConfRej, 7, opt(3, byPap+"\x00")))
	left(t, "PAP and more", draws, 24)
	says(t, "PAP", l.Take(pk(api.ConfReq, 8, opt(3, byPap))), pk(api.ConfAck, 8, opt(3, byPap)))
	says(t, "behind an ack", l.Take(pk(api.ConfReq, 9, magic(seven))), pk(api.ConfNak, 9, magic("\x00\x00\x00\x01")))
	looped(t, "behind an ack", l, 2)

	l = in(t, with(func(c *Config) { c.Fails = 0 }), api.ReqSent)
	for id := range 60 {
		if got := l.Take(pk(api.ConfReq, id, magic(nought))); len(got) != 1 || got[0].Code != api.ConfNak {
			t.Fatalf("Fails 0: %v", got)
		}
	}
}

// The fourth time is one too many: it is closed at once, in whatever state.
func TestP1202FourLoops(t *testing.T) {
	for state, name := range states {
		for _, asked := range [][]api.Option{{magic(seven)}, {magic(seven), opt(9, "")}, {magic("abcd"), magic(seven)}} {
			draws := tape.New(make([]int, 40))
			c := with(func(c *Config) { c.Fails = 0 })
			l := on(t, c, api.Closed, draws) // where a request changes nothing
			for i := range 3 {
				says(t, name, l.Take(pk(api.ConfReq, i, asked...)), bare(api.TermAck, i, ""))
				looped(t, name, l, i+1)
			}
			rest := draws.Left()
			other := on(t, c, state, draws)
			other.loops = 3
			twin := on(t, c, state, nil)
			says(t, name, other.Take(pk(api.ConfReq, 9, asked...)), twin.Do(api.Close)...)
			is(t, name, other, twin.State())
			looped(t, name, other, 4)
			left(t, name, draws, rest) // it is not judged any more
			ups, downs := twin.Ups()
			came(t, name, other, ups, downs)
		}
	}
}

// Loops never gets less: behind the fourth each request closes, also where it is opened again.
func TestP1202BeyondFourLoops(t *testing.T) {
	l := in(t, config(), api.ReqSent)
	for id := range 3 {
		l.Take(pk(api.ConfReq, id, magic(seven)))
	}
	is(t, "three", l, api.ReqSent)
	says(t, "four", l.Take(pk(api.ConfReq, 3, magic(seven))), bare(api.TermReq, 2, ""))
	is(t, "four", l, api.Closing)
	says(t, "five, which is closed already", l.Take(pk(api.ConfReq, 4, magic(seven))))
	looped(t, "five", l, 5)
	l.Take(bare(api.TermAck, 2, ""))
	is(t, "the end", l, api.Closed)
	says(t, "Open", l.Do(api.Open), pk(api.ConfReq, 3, magic(seven)))
	looped(t, "Open", l, 5)
	says(t, "six", l.Take(pk(api.ConfReq, 5, magic(seven))), bare(api.TermReq, 4, ""))
	looped(t, "six", l, 6)
	l.Do(api.Down)
	l.Do(api.Open)
	l.Do(api.Up)
	is(t, "again", l, api.ReqSent)
	says(t, "a good request", l.Take(pk(api.ConfReq, 6)), bare(api.TermReq, 6, ""))
	is(t, "a good request", l, api.Closing)
	looped(t, "a good request", l, 6)
	l.loops = 1<<62 - 1
	for range 3 {
		l.Take(pk(api.ConfReq, 7, magic(seven)))
	}
	looped(t, "2^62", l, 1<<62)
}

// Loops count across what comes between, and across coming up and down.
func TestP1202LoopsAddUp(t *testing.T) {
	l := in(t, config(), api.Opened)
	l.Take(pk(api.ConfReq, 1, magic(seven)))
	is(t, "one", l, api.ReqSent)
	l.Take(pk(api.ConfReq, 2, magic("abcd")))
	l.Take(pk(api.ConfAck, 2, magic(seven)))
	is(t, "between", l, api.Opened)
	looped(t, "between", l, 1)
	l.Do(api.Down)
	l.Take(pk(api.ConfReq, 3, magic(seven)))
	looped(t, "Starting", l, 2)
	l.Adopt(nil, nil)
	looped(t, "Adopt", l, 2)
	l.Take(pk(api.ConfReq, 4, magic(seven)))
	looped(t, "three", l, 3)
	is(t, "three", l, api.ReqSent)
	says(t, "four", l.Take(pk(api.ConfReq, 5, magic(seven))), bare(api.TermReq, 4, ""))
	looped(t, "four", l, 4)
}

// Other packets with this end's Magic are no loop.
func TestP1202OnlyRequestsLoop(t *testing.T) {
	l := in(t, config(), api.Opened)
	for range 5 {
		l.Take(bare(api.EchoReq, 1, seven))
		l.Take(bare(api.EchoRep, 1, seven))
		l.Take(bare(api.Discard, 1, seven))
		l.Take(pk(api.ConfAck, 99, magic(seven)))
		l.Take(pk(api.ConfNak, 99, magic(seven)))
		l.Take(pk(api.ConfRej, 99, magic(seven)))
	}
	looped(t, "others", l, 0)
	is(t, "others", l, api.Opened)
}

// sign tells the Magic that a link says it has.
func sign(t *testing.T, l *Lcp) string {
	t.Helper()
	if l.State() != api.Opened {
		t.Fatalf("a link in %s says no Magic", states[l.State()])
	}
	return l.Take(bare(api.EchoReq, 1, ""))[0].Data
}

// A nak that fits gives this end another Magic; one that does not, or is not heard, leaves it.
func TestP1202NakOfTheMagic(t *testing.T) {
	nine := "\x00\x00\x00\x09"
	for _, x := range []struct {
		what string
		nak  api.Packet
		want string // this end's Magic
		asks string // what it asks for
	}{
		{"9", pk(api.ConfNak, 1, magic(nine)), nine, nine},
		{"1", pk(api.ConfNak, 1, magic("\x00\x00\x00\x01")), "\x00\x00\x00\x01", "\x00\x00\x00\x01"},
		{"the greatest", pk(api.ConfNak, 1, magic(most)), most, most},
		{"its own", pk(api.ConfNak, 1, magic(seven)), seven, seven},
		{"0", pk(api.ConfNak, 1, magic(nought)), seven, ""},
		{"three bytes", pk(api.ConfNak, 1, magic("\x00\x00\x09")), seven, ""},
		{"five bytes", pk(api.ConfNak, 1, magic("\x00\x00\x00\x00\x09")), seven, ""},
		{"two, the last holds", pk(api.ConfNak, 1, magic(nine), magic("abcd")), "abcd", "abcd"},
		{"two, the last not fitting", pk(api.ConfNak, 1, magic(nine), magic(nought)), nine, ""},
		{"two, the first not fitting", pk(api.ConfNak, 1, magic(nought), magic(nine)), seven, ""},
		{"among others", pk(api.ConfNak, 1, opt(1, usual), magic(nine), opt(3, byPap)), nine, nine},
		{"its bytes in another option", pk(api.ConfNak, 1, opt(4, nine)), seven, seven},
		{"a reject", pk(api.ConfRej, 1, magic(seven)), seven, ""},
		{"a reject of another one", pk(api.ConfRej, 1, magic(nine)), seven, seven},
		{"another Id", pk(api.ConfNak, 2, magic(nine)), seven, seven},
		{"an ack", pk(api.ConfAck, 1, magic(nine)), seven, seven},
		{"a request", pk(api.ConfReq, 1, magic(nine)), seven, seven},
	} {
		for _, state := range []int{api.ReqSent, api.AckSent, api.Opened, api.Stopped, api.Closed, api.Closing, api.Starting} {
			l := in(t, config(), state, 1, 2, 3, 4)
			l.Take(x.nak)
			l.Do(api.Down)
			l.Do(api.Open)
			var ask []api.Option
			if x.asks != "" {
				ask = append(ask, magic(x.asks))
			}
			request := l.Do(api.Up)
			if len(request) != 1 {
				t.Fatalf("%s: %s: %v behind Up", states[state], x.what, request)
			}
			says(t, states[state]+": "+x.what, request, pk(api.ConfReq, request[0].Id, ask...))
			l.Take(pk(api.ConfReq, 3))
			l.Take(pk(api.ConfAck, request[0].Id, ask...))
			if got := sign(t, l); got != x.want {
				t.Errorf("%s: %s: the Magic is %q, not %q", states[state], x.what, got, x.want)
			}
			l.Take(pk(api.ConfReq, 4, magic(x.want)))
			looped(t, states[state]+": "+x.what, l, 1)
		}
	}
}

// What is not asked for is not named by a nak, either.
func TestP1202NakWhereNoMagicIsAskedFor(t *testing.T) {
	l := in(t, with(func(c *Config) { c.Magic = 0 }), api.Opened)
	says(t, "a nak", l.Take(pk(api.ConfNak, 1, magic("abcd"))), pk(api.ConfReq, 2))
	l.Take(pk(api.ConfReq, 3, magic("abcd")))
	l.Take(pk(api.ConfAck, 2))
	if got := sign(t, l); got != nought {
		t.Errorf("without a Magic: %q", got)
	}
	looped(t, "without a Magic", l, 0)

	l = in(t, config(), api.ReqSent)
	l.Take(pk(api.ConfRej, 1, magic(seven)))
	says(t, "behind a reject", l.Take(pk(api.ConfNak, 2, magic("abcd"))), pk(api.ConfReq, 3))
	l.Take(pk(api.ConfReq, 3, magic("abcd")))
	l.Take(pk(api.ConfAck, 3))
	if got := sign(t, l); got != seven {
		t.Errorf("behind a reject: %q", got)
	}
}
