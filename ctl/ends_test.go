package ctl

import (
	"math/rand/v2"
	"strings"
	"testing"

	"tollgate/api"
)

// P2007: two ends that hear each other over a way that loses, doubles and turns round.

// end is one of two, with all that it was given and told.
type end struct {
	*Ctl
	given, told []string
	way         []Item // what is on its way to it
	window      int
}

// pair makes two ends that know each other's first numbers.
func pair(t *testing.T, window, retry, wait, first int) (*end, *end) {
	t.Helper()
	a := &end{Ctl: made(t, window, 40, retry, wait, first), window: window}
	return a, &end{Ctl: made(t, window, 40, retry, wait, first), window: window}
}

// gets lets a message wait, if there is room.
func (e *end) gets(name string) {
	s := name + body(len(e.given))
	if e.Send(s) == api.OK {
		e.given = append(e.given, s)
	}
}

// speaks lays what e sends on the way to the other, and holds that no more fly than may.
func (e *end) speaks(t *testing.T, to *end) {
	t.Helper()
	was, before := e.Flying(), e.Waiting()
	l := e.Out()
	if n := before - e.Waiting(); n > 0 && was+n > e.window {
		t.Fatalf("%d fly, and %d more are sent: the window is %d", was, n, e.window)
	}
	to.way = append(to.way, l...)
}

// hears takes an item, and holds what it was told against what the other was given.
func (e *end) hears(t *testing.T, i Item, from *end) {
	t.Helper()
	for _, s := range e.Take(i) {
		if len(e.told) >= len(from.given) || from.given[len(e.told)] != s {
			t.Fatalf("%q is told as the message %d of %d", s, len(e.told), len(from.given))
		}
		e.told = append(e.told, s)
	}
}

// bad is how often, of 100 times, an item is lost, doubled, or leaves another one behind.
type bad struct{ lose, double, turn int }

// moves lets what is on its way to e arrive, or not; about half of it.
func (e *end) moves(t *testing.T, r *rand.Rand, b bad, from *end) {
	t.Helper()
	for n := len(e.way) - r.IntN(len(e.way)+1); n > 0 && len(e.way) > 0; n-- {
		at := 0
		if r.IntN(100) < b.turn {
			at = r.IntN(len(e.way))
		}
		i := e.way[at]
		if r.IntN(100) >= b.double {
			e.way = append(e.way[:at:at], e.way[at+1:]...)
		}
		if r.IntN(100) >= b.lose {
			e.hears(t, i, from)
		}
	}
}

// talk lets two ends send to each other for so many steps.
func talk(t *testing.T, r *rand.Rand, b bad, x, y *end, steps, often int) {
	t.Helper()
	for step := range steps {
		if r.IntN(often) == 0 {
			x.gets("x")
		}
		if r.IntN(3*often) == 0 {
			y.gets("y")
		}
		x.speaks(t, y)
		y.speaks(t, x)
		x.moves(t, r, b, y)
		y.moves(t, r, b, x)
		if step%2 == 0 {
			x.Tick()
			y.Tick()
		}
	}
}

// quiets goes on with nothing lost until both have heard all; it tells whether that came within its steps.
func quiets(t *testing.T, x, y *end) bool {
	t.Helper()
	for range 5000 {
		for _, e := range []*end{x, y} {
			from := x
			if e == x {
				from = y
			}
			from.speaks(t, e)
			for _, i := range e.way {
				e.hears(t, i, from)
			}
			e.way = nil
			e.Tick()
		}
		if heardAll(x, y) && x.Flying()+y.Flying()+x.Waiting()+y.Waiting() == 0 {
			return true
		}
	}
	return false
}

func heardAll(x, y *end) bool {
	return len(x.told) == len(y.given) && len(y.told) == len(x.given)
}

func TestP2007AllOfIt(t *testing.T) {
	r := rand.New(rand.NewPCG(20, 7))
	for _, b := range []bad{{}, {lose: 15}, {double: 40}, {turn: 60}, {15, 40, 60}, {20, 5, 10}} {
		for _, window := range []int{1, 2, 5, 64} {
			for _, wait := range []int{1, 4, 30} {
				for _, first := range []int{0, 32760, 65400, 65530, 65535} {
					x, y := pair(t, window, 10, wait, first)
					talk(t, r, b, x, y, 800, 2)
					if x.Dead() || y.Dead() {
						t.Fatalf("%+v, a window of %d, a wait of %d: dead", b, window, wait)
					}
					if !quiets(t, x, y) {
						t.Fatalf("%+v, a window of %d, a wait of %d: %d of %d, %d of %d were told", b, window, wait, len(y.told), len(x.given), len(x.told), len(y.given))
					}
					if len(x.told) < 3 || len(y.told) < 10 {
						t.Errorf("only %d and %d were told", len(x.told), len(y.told))
					}
				}
			}
		}
	}
}

// Far past the wrap of numbers, more than once.
func TestP2007AcrossWraps(t *testing.T) {
	r := rand.New(rand.NewPCG(20, 8))
	for _, b := range []bad{{}, {lose: 3, double: 5, turn: 10}} {
		x, y := pair(t, 8, 10, 4, 65535)
		for len(y.told) < 70000 {
			for range 8 {
				x.gets("x")
			}
			talk(t, r, b, x, y, 2, 1)
			if x.Dead() || y.Dead() {
				t.Fatalf("%+v: dead behind %d", b, len(y.told))
			}
		}
		if !quiets(t, x, y) {
			t.Errorf("%+v: %d of %d were told", b, len(y.told), len(x.given))
		}
	}
}

// Where the way is cut for good, what was told by then is a first part of what was given, and both who wait for acks die.
func TestP2007Cut(t *testing.T) {
	r := rand.New(rand.NewPCG(20, 9))
	for first := 65500; first < 65536; first++ {
		x, y := pair(t, 4, 2, 1, first)
		talk(t, r, bad{10, 10, 10}, x, y, 100, 2)
		talk(t, r, bad{lose: 100}, x, y, 200, 2)
		if !x.Dead() || !y.Dead() {
			t.Fatalf("first %d: %v, %v", first, x.Dead(), y.Dead())
		}
		was := len(x.told) + len(y.told)
		talk(t, r, bad{}, x, y, 100, 2)
		if len(x.told)+len(y.told) != was {
			t.Error("a dead one was told something")
		}
	}
}

// Where one way alone is cut, nobody who is told is told wrong.
func TestP2007OneWayCut(t *testing.T) {
	r := rand.New(rand.NewPCG(20, 10))
	x, y := pair(t, 4, 3, 2, 65534)
	for step := range 300 {
		x.gets("x")
		y.gets("y")
		x.speaks(t, y)
		y.speaks(t, x)
		y.moves(t, r, bad{}, x)
		x.way = nil
		if step%2 == 0 {
			x.Tick()
			y.Tick()
		}
	}
	if !x.Dead() || !y.Dead() || len(y.told) != 1 || len(x.told) != 0 {
		t.Errorf("%v, %v; %q and %q were told", x.Dead(), y.Dead(), x.told, y.told)
	}
}

// What comes late, by up to 32,767 messages of its way, is not told again, and acks nothing.
func TestP2007Late(t *testing.T) {
	x, y := pair(t, 4, 3, 2, 65000)
	var toX, toY []Item
	for range 100000 {
		x.gets("x")
		y.gets("y")
		was := len(y.way)
		x.speaks(t, y)
		toY = append(toY, y.way[was:]...)
		for _, i := range y.way {
			y.hears(t, i, x)
		}
		y.way = nil
		y.speaks(t, x)
		toX = append(toX, x.way...)
		for _, i := range x.way {
			x.hears(t, i, y)
		}
		x.way = nil
		x.Tick()
		if n := len(toY); n > 32767 && n%1000 == 0 {
			for _, at := range []int{n - 1, n - 2, n - 100, n - 10000, n - 32766, n - 32767} {
				before := seen(y.Ctl)
				y.hears(t, toY[at], x)
				if seen(y.Ctl) != before {
					t.Fatalf("%v changed %+v", toY[at], before)
				}
			}
			for _, at := range []int{len(toX) - 2, len(toX) - 10000, len(toX) - 32767} {
				before := seen(x.Ctl)
				x.hears(t, toX[at], y)
				if seen(x.Ctl) != before {
					t.Fatalf("%v changed %+v", toX[at], before)
				}
			}
		}
	}
	if len(toY) < 65536 || len(x.told) < 65536 {
		t.Errorf("%d went, %d were told", len(toY), len(x.told))
	}
}

// Bodies are handed on as they are.
func TestP2007Bytes(t *testing.T) {
	x, y := pair(t, 64, 3, 2, 65530)
	for n := 1; n <= 1500; n += 37 {
		for x.Send(long(n)) != api.OK {
			quiets(t, x, y)
		}
		x.given = append(x.given, long(n))
	}
	if !quiets(t, x, y) || strings.Join(y.told, "|") != strings.Join(x.given, "|") {
		t.Errorf("%d of %d were told", len(y.told), len(x.given))
	}
}
