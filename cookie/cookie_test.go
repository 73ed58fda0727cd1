package cookie

import (
	"crypto/md5"
	"math"
	"math/big"
	"strings"
	"testing"

	"tollgate/api"
)

// P601 to P603.

var card = api.Mac{1, 2, 3, 4, 5, 6}

// sum tells the digest of parts one behind the other, by another hand than the program's.
func sum(parts ...string) string {
	d := md5.Sum([]byte(strings.Join(parts, "")))
	return string(d[:])
}

// floor tells time divided by 64, rounded down, by numbers without an end.
func floor(time int) int {
	// Div of a divisor above 0 leaves a rest from 0 on: it rounds down.
	return int(new(big.Int).Div(big.NewInt(int64(time)), big.NewInt(64)).Int64())
}

// times has the edges: about 0, about multiples of 64, the least and the greatest int.
func times() []int {
	out := []int{math.MinInt, math.MinInt + 1, math.MinInt + 63, math.MinInt + 64, math.MinInt + 65, math.MinInt + 127, math.MinInt + 128,
		math.MaxInt, math.MaxInt - 1, math.MaxInt - 63, math.MaxInt - 64, math.MaxInt - 65}
	for _, at := range []int{0, 64, 128, 6400, 1 << 14, 1 << 22, 1 << 30, 1 << 38, 1 << 46, 1 << 54, 1 << 62} {
		for _, by := range []int{-1, 0, 1, 32} {
			out = append(out, at+by, -at+by)
		}
	}
	return out
}

func TestP601EpochExamples(t *testing.T) {
	for _, c := range []struct{ time, want int }{
		{-1, -1}, {64, 1},
		{0, 0}, {1, 0}, {63, 0}, {65, 1}, {127, 1}, {128, 2}, {100, 1}, {6399, 99}, {6400, 100},
		{-63, -1}, {-64, -1}, {-65, -2}, {-127, -2}, {-128, -2}, {-129, -3},
		{math.MaxInt, 1<<57 - 1}, {math.MaxInt - 63, 1<<57 - 1}, {math.MaxInt - 64, 1<<57 - 2},
		{math.MinInt, -1 << 57}, {math.MinInt + 63, -1 << 57}, {math.MinInt + 64, -1<<57 + 1},
	} {
		if got := Epoch(c.time); got != c.want {
			t.Errorf("Epoch(%d) = %d, not %d", c.time, got, c.want)
		}
	}
}

func TestP601EpochRoundsDown(t *testing.T) {
	for time := -1000; time <= 1000; time++ {
		if got, want := Epoch(time), floor(time); got != want {
			t.Errorf("Epoch(%d) = %d, not %d", time, got, want)
		}
	}
	for _, time := range times() {
		if got, want := Epoch(time), floor(time); got != want {
			t.Errorf("Epoch(%d) = %d, not %d", time, got, want)
		}
	}
}

func TestP601MakeBytes(t *testing.T) {
	const mac = "\x01\x02\x03\x04\x05\x06"
	for _, c := range []struct {
		time int
		head string
	}{
		{0, "\x00\x00\x00\x00\x00\x00\x00\x00"},
		{63, "\x00\x00\x00\x00\x00\x00\x00\x00"},
		{64, "\x00\x00\x00\x00\x00\x00\x00\x01"},
		{100, "\x00\x00\x00\x00\x00\x00\x00\x01"},
		{128, "\x00\x00\x00\x00\x00\x00\x00\x02"},
		{255 * 64, "\x00\x00\x00\x00\x00\x00\x00\xff"},
		{256 * 64, "\x00\x00\x00\x00\x00\x00\x01\x00"},
		{0x0102030405060708, "\x00\x04\x08\x0c\x10\x14\x18\x1c"},
		{-1, "\xff\xff\xff\xff\xff\xff\xff\xff"},
		{-64, "\xff\xff\xff\xff\xff\xff\xff\xff"},
		{-65, "\xff\xff\xff\xff\xff\xff\xff\xfe"},
		{-256 * 64, "\xff\xff\xff\xff\xff\xff\xff\x00"},
		{-256*64 - 1, "\xff\xff\xff\xff\xff\xff\xfe\xff"},
		{math.MaxInt, "\x01\xff\xff\xff\xff\xff\xff\xff"},
		{math.MinInt, "\xfe\x00\x00\x00\x00\x00\x00\x00"},
	} {
		if got, want := Make("sec", card, "srv", c.time), sum(c.head, mac, "\x00\x00\x00\x03", "srv", "sec"); got != want {
			t.Errorf("Make at %d = %x, not %x", c.time, got, want)
		}
	}
}

func TestP601MakeEpochAnyTime(t *testing.T) {
	for _, time := range times() {
		rest := new(big.Int).Mod(big.NewInt(int64(floor(time))), new(big.Int).Lsh(big.NewInt(1), 64))
		head := string(rest.FillBytes(make([]byte, 8)))
		if got, want := Make("s", api.Mac{}, "", time), sum(head, strings.Repeat("\x00", 10), "s"); got != want {
			t.Errorf("Make at %d = %x, not %x", time, got, want)
		}
	}
}

func TestP601MakeServiceAndSecret(t *testing.T) {
	const head = "\x00\x00\x00\x00\x00\x00\x00\x01"
	for _, c := range []struct {
		m                           api.Mac
		service, secret, mac, count string
	}{
		{api.Mac{}, "", "", "\x00\x00\x00\x00\x00\x00", "\x00\x00\x00\x00"},
		{api.Mac{255, 255, 255, 255, 255, 255}, "", "", "\xff\xff\xff\xff\xff\xff", "\x00\x00\x00\x00"},
		{api.Mac{1, 0, 0, 0, 0, 128}, "a", "", "\x01\x00\x00\x00\x00\x80", "\x00\x00\x00\x01"},
		{card, "", "a", "\x01\x02\x03\x04\x05\x06", "\x00\x00\x00\x00"},
		{card, "\x00", "\xff", "\x01\x02\x03\x04\x05\x06", "\x00\x00\x00\x01"},
		{card, "\xff\xfe", "\x00", "\x01\x02\x03\x04\x05\x06", "\x00\x00\x00\x02"},
		{card, strings.Repeat("s", 255), "x", "\x01\x02\x03\x04\x05\x06", "\x00\x00\x00\xff"},
		{card, strings.Repeat("s", 256), "x", "\x01\x02\x03\x04\x05\x06", "\x00\x00\x01\x00"},
		{card, strings.Repeat("s", 65535), "x", "\x01\x02\x03\x04\x05\x06", "\x00\x00\xff\xff"},
		{card, strings.Repeat("s", 65536), "x", "\x01\x02\x03\x04\x05\x06", "\x00\x01\x00\x00"},
		{card, strings.Repeat("s", 1<<24+1), "x", "\x01\x02\x03\x04\x05\x06", "\x01\x00\x00\x01"},
		{card, "x", strings.Repeat("s", 100000), "\x01\x02\x03\x04\x05\x06", "\x00\x00\x00\x01"},
	} {
		if got, want := Make(c.secret, c.m, c.service, 64), sum(head, c.mac, c.count, c.service, c.secret); got != want {
			t.Errorf("Make of card %v, a service of %d bytes, a secret of %d = %x, not %x", c.m, len(c.service), len(c.secret), got, want)
		}
	}
}

// What is hashed has 18 bytes and service and secret: each length about a block's end is gone through.
func TestP601MakeAnyLength(t *testing.T) {
	for n := range 150 {
		text := strings.Repeat("t", n)
		count := string([]byte{0, 0, 0, byte(n)})
		head := strings.Repeat("\x00", 14)
		if got, want := Make("", api.Mac{}, text, 0), sum(head, count, text); got != want || len(got) != 16 {
			t.Errorf("Make of a service of %d bytes = %x, not %x", n, got, want)
		}
		if got, want := Make(text, api.Mac{}, "", 0), sum(head, "\x00\x00\x00\x00", text); got != want || len(got) != 16 {
			t.Errorf("Make of a secret of %d bytes = %x, not %x", n, got, want)
		}
	}
}

// All ways to part the same bytes into service and secret have cookies of their own.
func TestP601ServiceAgainstSecret(t *testing.T) {
	const both = "\x00\x00\x00\x01abc\x00\x00"
	where := map[string]int{}
	for cut := range len(both) + 1 {
		c := Make(both[cut:], card, both[:cut], 100)
		if at, ok := where[c]; ok {
			t.Errorf("parted at %d and at %d, both have the cookie %x", at, cut, c)
		}
		where[c] = cut
		for other := range len(both) + 1 {
			if got := Check(both[other:], card, both[:other], c, 100); got != (other == cut) {
				t.Errorf("Check, made parted at %d, asked at %d = %t", cut, other, got)
			}
		}
	}
}

func TestP602Example(t *testing.T) {
	c := Make("sec", card, "srv", 100)
	for _, at := range []struct {
		time int
		want bool
	}{{130, true}, {191, true}, {192, false}} {
		if got := Check("sec", card, "srv", c, at.time); got != at.want {
			t.Errorf("Check at %d = %t", at.time, got)
		}
	}
}

// Each Check is held against what the promise says of the two epochs; both ends of each while are there.
func TestP602CheckByEpochs(t *testing.T) {
	for _, made := range times() {
		c := Make("sec", card, "srv", made)
		for _, at := range times() {
			// The difference of two epochs is far from an int's ends.
			gap := floor(at) - floor(made)
			if got, want := Check("sec", card, "srv", c, at), gap == 0 || gap == 1; got != want {
				t.Errorf("Check at %d of a cookie made at %d = %t", at, made, got)
			}
		}
	}
}

func TestP602CheckEdges(t *testing.T) {
	const least, most = math.MinInt, math.MaxInt
	for _, c := range []struct {
		made, at int
		want     bool
	}{
		{0, 0, true}, {0, 127, true}, {0, 128, false}, {0, -1, false},
		{63, 0, true}, {63, 127, true}, {63, 128, false},
		{64, 63, false}, {64, 64, true}, {64, 191, true}, {64, 192, false},
		{127, 64, true}, {127, 63, false}, {127, 191, true}, {127, 192, false},
		{-1, -64, true}, {-1, -65, false}, {-1, 0, true}, {-1, 63, true}, {-1, 64, false},
		{-64, 63, true}, {-64, 64, false}, {-65, -1, true}, {-65, 0, false}, {-128, -129, false},
		{least, least, true}, {least, least + 127, true}, {least, least + 128, false},
		{least + 63, least, true}, {least + 64, least, false}, {least + 64, least + 63, false}, {least + 64, least + 64, true},
		{most, most, true}, {most - 63, most, true}, {most - 64, most, true}, {most - 127, most, true}, {most - 128, most, false},
		{most, most - 63, true}, {most, most - 64, false},
		// Where time - 64 would come out behind a wrap.
		{most, least, false}, {most - 63, least, false}, {most, least + 63, false}, {least, most, false},
	} {
		if got := Check("sec", card, "srv", Make("sec", card, "srv", c.made), c.at); got != c.want {
			t.Errorf("Check at %d of a cookie made at %d = %t", c.at, c.made, got)
		}
	}
}

// At the least int the epoch ahead is -2^57 - 1, of which no time is: its cookie is written out here.
func TestP602CheckBeforeTheLeastInt(t *testing.T) {
	const rest = "\x01\x02\x03\x04\x05\x06\x00\x00\x00\x03srvsec"
	before := sum("\xfd\xff\xff\xff\xff\xff\xff\xff", rest)
	for _, c := range []struct {
		time int
		want bool
	}{{math.MinInt, true}, {math.MinInt + 63, true}, {math.MinInt + 64, false}, {math.MaxInt, false}} {
		if got := Check("sec", card, "srv", before, c.time); got != c.want {
			t.Errorf("Check at %d of the cookie of the epoch ahead of all = %t", c.time, got)
		}
	}
}

func TestP602CheckOther(t *testing.T) {
	// Made in the while itself, and in the one ahead: each of both comparisons sees the whole question.
	for _, made := range []int{130, 100} {
		c := Make("sec", card, "srv", made)
		if !Check("sec", card, "srv", c, 130) {
			t.Errorf("made at %d: not good at 130", made)
		}
		for i := range card {
			other := card
			other[i] ^= 1
			if Check("sec", other, "srv", c, 130) {
				t.Errorf("made at %d: good for the card %v", made, other)
			}
		}
		for _, other := range []string{"", "s", "sr", "srv ", "srV", "srvs", "rsv", "srv\x00", strings.Repeat("srv", 100)} {
			if Check("sec", card, other, c, 130) {
				t.Errorf("made at %d: good for the service %q", made, other)
			}
		}
		for _, other := range []string{"", "s", "se", "seC", "secs", "ces", "sec\x00", strings.Repeat("sec", 100)} {
			if Check(other, card, "srv", c, 130) {
				t.Errorf("made at %d: good for the secret %q", made, other)
			}
		}
	}
}

func TestP602CheckOtherCookie(t *testing.T) {
	for _, made := range []int{130, 100} {
		c := Make("sec", card, "srv", made)
		for _, other := range []string{"", c[:1], c[:15], c[1:], c + "\x00", c + c, "\x00" + c, strings.Repeat("\x00", 16), strings.Repeat("x", 1000)} {
			if Check("sec", card, "srv", other, 130) {
				t.Errorf("made at %d: %x is good", made, other)
			}
		}
		for i := range len(c) {
			for bit := range 8 {
				other := []byte(c)
				other[i] ^= 1 << bit
				if Check("sec", card, "srv", string(other), 130) {
					t.Errorf("made at %d: good with bit %d of byte %d changed", made, bit, i)
				}
			}
		}
	}
}

// Empty arguments are arguments like others.
func TestP602CheckEmpty(t *testing.T) {
	c := Make("", api.Mac{}, "", 0)
	if !Check("", api.Mac{}, "", c, 0) || !Check("", api.Mac{}, "", c, 127) || Check("", api.Mac{}, "", c, 128) {
		t.Error("a cookie of nothing is not good from 0 to 127 alone")
	}
	if Check("", api.Mac{}, "", "", 0) {
		t.Error("an empty cookie is good")
	}
}

func TestP603GoodForAWhile(t *testing.T) {
	for made := -200; made <= 200; made++ {
		c := Make("sec", card, "srv", made)
		for by := range 65 {
			if !Check("sec", card, "srv", c, made+by) {
				t.Errorf("made at %d: not good at %d", made, made+by)
			}
		}
		for by := 128; by < 300; by++ {
			if Check("sec", card, "srv", c, made+by) {
				t.Errorf("made at %d: good at %d", made, made+by)
			}
		}
		// The last tick at which it is good is the last one of the next while.
		last := 64*floor(made) + 127
		if !Check("sec", card, "srv", c, last) || Check("sec", card, "srv", c, last+1) {
			t.Errorf("made at %d: %d is not the last tick at which it is good", made, last)
		}
		first := 64 * floor(made)
		if !Check("sec", card, "srv", c, first) || Check("sec", card, "srv", c, first-1) {
			t.Errorf("made at %d: %d is not the first tick at which it is good", made, first)
		}
	}
}

// Nothing is remembered: what was made and asked in between changes no answer.
func TestP603NothingIsRemembered(t *testing.T) {
	first := Make("sec", card, "srv", 100)
	Make("other", api.Mac{9}, "else", 5000)
	Check("other", api.Mac{9}, "else", first, -5000)
	if Make("sec", card, "srv", 100) != first || !Check("sec", card, "srv", first, 100) || !Check("sec", card, "srv", first, 100) {
		t.Error("the same question has another answer the second time")
	}
	if card != (api.Mac{1, 2, 3, 4, 5, 6}) {
		t.Errorf("the card is now %v", card)
	}
}
