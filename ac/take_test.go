package ac

import (
	"fmt"
	"math"
	"strings"
	"testing"

	"tollgate/api"
	"tollgate/byhand"
	"tollgate/cookie"
)

// P702.

func noServ() api.Tag { return api.Tag{Type: api.TagNoServ} }

func TestP702Examples(t *testing.T) {
	c := conc(t, 2)
	sent(t, c.Take(disc(all, card(1), api.Padi, 0, service(""), uniq("u")), 10),
		disc(card(1), own, api.Pado, 0, name("ac"), service(""), baked(card(1), "", 10), uniq("u")))
	live(t, c)
	again := disc(own, card(1), api.Padr, 0, service(""), baked(card(1), "", 10), uniq("u"))
	for range 2 {
		sent(t, c.Take(again, 70), disc(card(1), own, api.Pads, 1, service(""), uniq("u")))
		live(t, c, Session{Id{card(1), 1}, "u", false})
	}
}

// bothWays tells a frame that is answered, and what answers it, of each of the two kinds that are.
func bothWays(c *Conc) map[string]struct{ f, want api.Ether } {
	m := card(1)
	return map[string]struct{ f, want api.Ether }{
		"Padi": {disc(all, m, api.Padi, 0, service("")), disc(m, own, api.Pado, 0, name("ac"), service(""), baked(m, "", 0))},
		"Padr": {padr(m, "", 0), disc(m, own, api.Pads, 1, service(""))},
	}
}

func TestP702NothingOfWhatIsNoDiscovery(t *testing.T) {
	for _, change := range byhand.NoDisc() {
		c := conc(t, 2)
		for kind, x := range bothWays(c) {
			if got := c.Take(change.Make(x.f), 0); len(got) != 0 {
				t.Errorf("%s, %s: %x is sent", kind, change.What, got)
			}
			live(t, c)
		}
		for _, x := range bothWays(c) {
			sent(t, c.Take(x.f, 0), x.want)
		}
	}
}

// A frame from the card itself could have a cookie that is good for it.
func TestP702NothingFromTheCardItself(t *testing.T) {
	c := conc(t, 2, "x")
	sent(t, c.Take(disc(all, own, api.Padi, 0, service("x")), 0))
	sent(t, c.Take(padr(own, "x", 0), 0))
	sent(t, c.Take(padr(own, "none", 0), 0))
	live(t, c)
}

func TestP702FillingAndWhatIsBehindTheEnd(t *testing.T) {
	for _, change := range byhand.Filled() {
		c := conc(t, 2)
		for _, x := range bothWays(c) {
			sent(t, c.Take(change.Make(x.f), 0), x.want)
		}
	}
}

func TestP702OtherCodes(t *testing.T) {
	for code := range 256 {
		if code == api.Padi || code == api.Padr || code == api.Padt {
			continue
		}
		c := conc(t, 2)
		id := ask(t, c, card(1), "u", 1)
		for _, dst := range []api.Mac{own, all} {
			for _, session := range []int{0, 1} {
				sent(t, c.Take(disc(dst, card(1), code, session, service(""), baked(card(1), "", 0)), 0))
			}
		}
		live(t, c, Session{id, "u", false})
		gone(t, c)
	}
}

func TestP702Padi(t *testing.T) {
	services := []string{"x", "", "y", "x", strings.Repeat("s", 40)}
	c := conc(t, 2, services...)
	any := []api.Tag{service(""), service("x"), service(""), service("y"), service("x"), service(strings.Repeat("s", 40))}
	for _, m := range []api.Mac{card(1), {}, all, {255, 255, 255, 255, 255, 254}} {
		for _, time := range []int{0, 1, 63, 64, 6400, -1, math.MaxInt, math.MinInt} {
			sent(t, c.Take(disc(all, m, api.Padi, 0, service("")), time),
				disc(m, own, api.Pado, 0, append(append([]api.Tag{name("ac")}, any...), baked(m, "", time))...))
			for _, s := range []string{"x", "y", services[4]} {
				sent(t, c.Take(disc(all, m, api.Padi, 0, service(s)), time),
					disc(m, own, api.Pado, 0, name("ac"), service(s), baked(m, s, time)))
			}
		}
	}
	live(t, c)
	gone(t, c)
}

func TestP702PadiOfAnUnknownService(t *testing.T) {
	for _, services := range [][]string{nil, {"x", "y"}, {""}} {
		c := conc(t, 2, services...)
		for _, s := range []string{"z", "X", "xy", "x ", "\x00", "ac", strings.Repeat("x", 41)} {
			sent(t, c.Take(disc(all, card(1), api.Padi, 0, service(s)), 0))
			sent(t, c.Take(disc(all, card(1), api.Padi, 0, service(s), uniq("u")), 0))
		}
	}
}

func TestP702PadiToAnotherAndWithASession(t *testing.T) {
	c := conc(t, 2)
	near := all
	near[0]--
	far := all
	far[5]--
	for _, dst := range []api.Mac{own, card(1), card(2), {}, near, far} {
		sent(t, c.Take(disc(dst, card(1), api.Padi, 0, service("")), 0))
	}
	for _, session := range []int{1, 255, 256, 65535} {
		sent(t, c.Take(disc(all, card(1), api.Padi, session, service("")), 0))
	}
	// What is told does not hang on these: a concentrator may have the card of everyone.
	c, _ = New(all, "ac", nil, secret, 2)
	sent(t, c.Take(disc(all, card(1), api.Padi, 0, service("")), 0),
		disc(card(1), all, api.Pado, 0, name("ac"), service(""), baked(card(1), "", 0)))
}

func TestP702JustOneService(t *testing.T) {
	c := conc(t, 4, "x")
	for what, l := range map[string][]api.Tag{
		"none":           {},
		"two empty ones": {service(""), service("")},
		"two the same":   {service("x"), service("x")},
		"any and one":    {service(""), service("x")},
		"one and any":    {service("x"), service("")},
		"three":          {service(""), service("x"), service("y")},
		"parted":         {service(""), uniq("u"), service("")},
	} {
		if got := c.Take(disc(all, card(1), api.Padi, 0, l...), 0); len(got) != 0 {
			t.Errorf("Padi, %s: %x is sent", what, got)
		}
		for _, s := range []string{"", "x"} {
			if got := c.Take(disc(own, card(1), api.Padr, 0, append([]api.Tag{baked(card(1), s, 0)}, l...)...), 0); len(got) != 0 {
				t.Errorf("Padr, %s: %x is sent", what, got)
			}
		}
	}
	live(t, c)
}

func TestP702UniqAsItWasAsked(t *testing.T) {
	long := strings.Repeat("u", 1000)
	for _, x := range []struct{ asked, said []api.Tag }{
		{nil, nil},
		{[]api.Tag{uniq("")}, []api.Tag{uniq("")}},
		{[]api.Tag{uniq("u")}, []api.Tag{uniq("u")}},
		{[]api.Tag{uniq("\x00\xff")}, []api.Tag{uniq("\x00\xff")}},
		{[]api.Tag{uniq("u"), uniq("v")}, []api.Tag{uniq("u")}},
		{[]api.Tag{uniq(""), uniq("v")}, []api.Tag{uniq("")}},
		{[]api.Tag{uniq(long)}, []api.Tag{uniq(long)}},
		{[]api.Tag{{Type: 0x0105, Value: "vendor"}, uniq("u"), {Type: 0x0110}}, []api.Tag{uniq("u")}},
	} {
		c := conc(t, 4, "x")
		m := card(1)
		for _, first := range []bool{true, false} {
			// Where the tags stand does not matter.
			around := func(l ...api.Tag) []api.Tag {
				if first {
					return append(append([]api.Tag{}, x.asked...), l...)
				}
				return append(l, x.asked...)
			}
			said := func(l ...api.Tag) []api.Tag { return append(l, x.said...) }
			sent(t, c.Take(disc(all, m, api.Padi, 0, around(service("x"))...), 0),
				disc(m, own, api.Pado, 0, said(name("ac"), service("x"), baked(m, "x", 0))...))
			sent(t, c.Take(disc(own, m, api.Padr, 0, around(baked(m, "x", 0), service("x"))...), 0),
				disc(m, own, api.Pads, 1, said(service("x"))...))
			sent(t, c.Take(disc(own, m, api.Padr, 0, around(service("z"), baked(m, "z", 0))...), 0),
				disc(m, own, api.Pads, 0, said(service("z"), noServ())...))
		}
		full := conc(t, 1)
		ask(t, full, card(2), "v", 1)
		sent(t, full.Take(disc(own, m, api.Padr, 0, append([]api.Tag{service(""), baked(m, "", 0)}, x.asked...)...), 0),
			disc(m, own, api.Pads, 0, append([]api.Tag{service(""), {Type: api.TagSystem}}, x.said...)...))
	}
}

// A Pado says more than the Padi: 34 bytes of tags ahead of the uniq, where the Padi has 4.
func TestP702WhatHasNoRoomIsNotSent(t *testing.T) {
	c := conc(t, 2)
	m := card(1)
	for _, size := range []int{1400, 1459, 1460} {
		u := uniq(strings.Repeat("u", size))
		sent(t, c.Take(disc(all, m, api.Padi, 0, service(""), u), 0),
			disc(m, own, api.Pado, 0, name("ac"), service(""), baked(m, "", 0), u))
	}
	for _, size := range []int{1461, 1462, 1486} {
		sent(t, c.Take(disc(all, m, api.Padi, 0, service(""), uniq(strings.Repeat("u", size))), 0))
	}
	// With all services at their longest it is full earlier; and it has room again for what is shorter.
	c, err := New(own, strings.Repeat("n", 40), repeated(8, 40), secret, 2)
	if err != api.OK {
		t.Fatal(err)
	}
	rest := 1494 - 44 - 4 - 8*44 - 20 - 4
	sent(t, c.Take(disc(all, m, api.Padi, 0, service(""), uniq(strings.Repeat("u", rest+1))), 0))
	u := uniq(strings.Repeat("u", rest))
	want := []api.Tag{name(strings.Repeat("n", 40)), service("")}
	for range 8 {
		want = append(want, service(strings.Repeat("s", 40)))
	}
	sent(t, c.Take(disc(all, m, api.Padi, 0, service(""), u), 0), disc(m, own, api.Pado, 0, append(want, baked(m, "", 0), u)...))
	// The longest Padr has an answer: its cookie stands in none.
	u = uniq(strings.Repeat("u", 1494-4-20-4))
	sent(t, c.Take(padr(m, "", 0, u), 0), disc(m, own, api.Pads, 1, service(""), u))
}

func TestP702PadrCookie(t *testing.T) {
	m := card(1)
	good := cookie.Make(secret, m, "", 100)
	for what, x := range map[string]struct {
		time int
		tags []api.Tag
		want int
	}{
		"at once":             {100, []api.Tag{proof(good)}, 1},
		"in the next while":   {191, []api.Tag{proof(good)}, 1},
		"old":                 {192, []api.Tag{proof(good)}, 0},
		"older":               {256, []api.Tag{proof(good)}, 0},
		"of a time to come":   {63, []api.Tag{proof(good)}, 0},
		"none":                {100, nil, 0},
		"empty":               {100, []api.Tag{proof("")}, 0},
		"wrong":               {100, []api.Tag{proof("bad")}, 0},
		"cut off":             {100, []api.Tag{proof(good[:15])}, 0},
		"longer":              {100, []api.Tag{proof(good + "\x00")}, 0},
		"the first is good":   {100, []api.Tag{proof(good), proof("bad")}, 1},
		"the second is good":  {100, []api.Tag{proof("bad"), proof(good)}, 0},
		"of another card":     {100, []api.Tag{baked(card(2), "", 100)}, 0},
		"of another service":  {100, []api.Tag{baked(m, "x", 100)}, 0},
		"of another secret":   {100, []api.Tag{proof(cookie.Make("t", m, "", 100))}, 0},
		"of another kind":     {100, []api.Tag{{Type: 0x0105, Value: good}}, 0},
		"at the greatest int": {math.MaxInt, []api.Tag{baked(m, "", math.MaxInt)}, 1},
		"at the least int":    {math.MinInt, []api.Tag{baked(m, "", math.MinInt)}, 1},
	} {
		c := conc(t, 2, "x")
		got := c.Take(disc(own, m, api.Padr, 0, append([]api.Tag{service("")}, x.tags...)...), x.time)
		if len(got) != x.want || len(c.Live()) != x.want {
			t.Errorf("%s: %x is sent, %v are live", what, got, c.Live())
		}
		if x.want == 1 {
			sent(t, got, disc(m, own, api.Pads, 1, service("")))
		}
	}
}

// Nothing is told to who has no cookie, not even that there is no such service or no room; nor is it given what it has.
func TestP702PadrCookieComesFirst(t *testing.T) {
	c := conc(t, 1, "x")
	m := card(1)
	ask(t, c, m, "u", 1)
	for _, bad := range []api.Tag{proof("bad"), {Type: 0x0105}} {
		sent(t, c.Take(disc(own, m, api.Padr, 0, service("z"), bad, uniq("u")), 0))
		sent(t, c.Take(disc(own, m, api.Padr, 0, service(""), bad, uniq("u")), 0))
		sent(t, c.Take(disc(own, m, api.Padr, 0, service(""), bad, uniq("v")), 0))
	}
	live(t, c, Session{Id{m, 1}, "u", false})
}

func TestP702PadrToAnotherAndWithASession(t *testing.T) {
	c := conc(t, 4)
	m := card(1)
	for _, dst := range []api.Mac{all, m, card(2), {}, {2, 0, 0, 0, 0, 8}, {3, 0, 0, 0, 0, 9}} {
		sent(t, c.Take(disc(dst, m, api.Padr, 0, service(""), baked(m, "", 0)), 0))
	}
	for _, session := range []int{1, 256, 65535} {
		sent(t, c.Take(disc(own, m, api.Padr, session, service(""), baked(m, "", 0)), 0))
	}
	live(t, c)
	ask(t, c, m, "u", 1)
}

func TestP702PadrService(t *testing.T) {
	c := conc(t, 60, "x", "y")
	for i, s := range []string{"", "x", "y"} {
		m := card(i)
		sent(t, c.Take(padr(m, s, 0), 0), disc(m, own, api.Pads, i+1, service(s)))
	}
	had := c.Live()
	m := card(9)
	for _, s := range []string{"z", "X", "xy", "\x00", strings.Repeat("x", 41)} {
		sent(t, c.Take(padr(m, s, 0), 0), disc(m, own, api.Pads, 0, service(s), noServ()))
		sent(t, c.Take(padr(m, s, 0, uniq("u")), 0), disc(m, own, api.Pads, 0, service(s), noServ(), uniq("u")))
	}
	live(t, c, had...)
	sent(t, c.Take(padr(m, "x", 0), 0), disc(m, own, api.Pads, 4, service("x")))
}

// An unknown service is told ahead of a lack of room, and ahead of a session that it has.
func TestP702PadrUnknownServiceComesFirst(t *testing.T) {
	c := conc(t, 1, "x")
	id := ask(t, c, card(1), "u", 1)
	for _, m := range []api.Mac{card(1), card(2)} {
		sent(t, c.Take(padr(m, "z", 0, uniq("u")), 0), disc(m, own, api.Pads, 0, service("z"), noServ(), uniq("u")))
	}
	live(t, c, Session{id, "u", false})
}

func TestP702SameUniq(t *testing.T) {
	c := conc(t, 60, "x")
	m := card(1)
	one := ask(t, c, m, "u", 1)
	for range 3 {
		ask(t, c, m, "u", 1)
	}
	// Of another service it is the same one all the same; of another card it is not.
	sent(t, c.Take(padr(m, "x", 0, uniq("u")), 0), disc(m, own, api.Pads, 1, service("x"), uniq("u")))
	two := ask(t, c, card(2), "u", 2)
	live(t, c, Session{one, "u", false}, Session{two, "u", false})
	use(t, c, one)
	three := ask(t, c, m, "u", 3)
	ask(t, c, m, "u", 3)
	ask(t, c, card(2), "u", 2)
	live(t, c, Session{one, "u", true}, Session{two, "u", false}, Session{three, "u", false})
	use(t, c, three)
	refused(t, c, m, "u")
	closed(t, c, one)
	four := ask(t, c, m, "u", 4)
	live(t, c, Session{two, "u", false}, Session{three, "u", true}, Session{four, "u", false})
	closed(t, c, four)
	ask(t, c, m, "u", 5)
}

func TestP702NoUniqIsAnEmptyOne(t *testing.T) {
	c := conc(t, 60)
	m := card(1)
	for range 2 {
		sent(t, c.Take(padr(m, "", 0), 0), disc(m, own, api.Pads, 1, service("")))
		sent(t, c.Take(padr(m, "", 0, uniq("")), 0), disc(m, own, api.Pads, 1, service(""), uniq("")))
		sent(t, c.Take(padr(m, "", 0, uniq(""), uniq("u")), 0), disc(m, own, api.Pads, 1, service(""), uniq("")))
	}
	ask(t, c, m, "u", 2)
	sent(t, c.Take(padr(m, "", 0, uniq("u"), uniq("")), 0), disc(m, own, api.Pads, 2, service(""), uniq("u")))
	live(t, c, Session{Id{m, 1}, "", false}, Session{Id{m, 2}, "u", false})
}

func TestP702RoomAtMost(t *testing.T) {
	for _, most := range []int{1, 2, 3, 59, 60} {
		c := conc(t, most)
		for i := range most {
			ask(t, c, card(i), "u", i+1)
		}
		refused(t, c, card(1000), "u")
		refused(t, c, card(0), "v")
		for i := range most {
			ask(t, c, card(i), "u", i+1)
		}
		if got := len(c.Live()); got != most {
			t.Errorf("%d sessions, not %d", got, most)
		}
		// A refusal takes no number.
		closed(t, c, Id{card(0), 1})
		ask(t, c, card(1000), "u", most+1)
		refused(t, c, card(0), "u")
	}
}

func TestP702RoomOfOneCard(t *testing.T) {
	c := conc(t, 60)
	m := card(1)
	one := ask(t, c, m, "a", 1)
	ask(t, c, m, "b", 2)
	refused(t, c, m, "c")
	ask(t, c, m, "a", 1)
	ask(t, c, m, "b", 2)
	use(t, c, one)
	refused(t, c, m, "a")
	ask(t, c, m, "b", 2)
	// Cards that differ by one byte, whichever, are others.
	for i := range m {
		other := m
		other[i] ^= 0x10
		ask(t, c, other, "c", 3+i)
	}
	sent(t, c.Take(disc(own, m, api.Padt, 1), 0))
	ask(t, c, m, "c", 9)
	refused(t, c, m, "a")
}

// spin gives out n sessions, one behind the other, and closes each.
func spin(t *testing.T, c *Conc, n int) {
	t.Helper()
	m := card(70000)
	f := padr(m, "", 0)
	for range n {
		got := c.Take(f, 0)
		if len(got) != 1 {
			t.Fatalf("%x is sent", got)
		}
		number := int(got[0].Data[2])*256 + int(got[0].Data[3])
		if _, err := c.Close(Id{m, number}); err != api.OK {
			t.Fatalf("the session %d is none", number)
		}
	}
	c.Gone()
}

// What went is not given out again at once: the numbers go on.
func TestP702NextNumber(t *testing.T) {
	c := conc(t, 2)
	for n := 1; n <= 300; n++ {
		closed(t, c, ask(t, c, card(n), "u", n))
	}
}

func TestP702NumbersGoRound(t *testing.T) {
	c := conc(t, 60)
	spin(t, c, 65534)
	closed(t, c, ask(t, c, card(1), "u", 65535))
	closed(t, c, ask(t, c, card(1), "u", 1))
	ask(t, c, card(1), "u", 2)
}

func TestP702NumbersPassThoseOfSessions(t *testing.T) {
	c := conc(t, 60)
	ids := map[int]Id{}
	for n := 1; n <= 5; n++ {
		ids[n] = ask(t, c, card(n), "u", n)
	}
	closed(t, c, ids[3])
	spin(t, c, 65529)
	ask(t, c, card(10), "u", 65535)
	ask(t, c, card(11), "u", 3)
	ask(t, c, card(12), "u", 6)
	closed(t, c, ids[1])
	ask(t, c, card(13), "u", 7)
}

// 59 numbers in a row are had, across the wrap, wherever it is: the one behind them is given.
func TestP702NumbersPassAWholeRow(t *testing.T) {
	for _, start := range []int{0, 1, 65476, 65477, 65500, 65534} {
		c := conc(t, 60)
		spin(t, c, start)
		number := func(i int) int { return (start+i)%65535 + 1 }
		for i := range 59 {
			ask(t, c, card(i), fmt.Sprint(i), number(i))
		}
		// Round once more, up to the one ahead of the row: 65535 numbers, of which 59 are had.
		spin(t, c, 65535-59)
		ask(t, c, card(100), "u", number(59))
		refused(t, c, card(101), "u")
	}
}

func TestP702Padt(t *testing.T) {
	c := conc(t, 60)
	one, two, three := ask(t, c, card(1), "u", 1), ask(t, c, card(1), "v", 2), ask(t, c, card(2), "u", 3)
	padt := func(dst, src api.Mac, session int, tags ...api.Tag) {
		t.Helper()
		sent(t, c.Take(disc(dst, src, api.Padt, session, tags...), 0))
	}
	padt(own, card(2), 1)
	padt(own, card(1), 3)
	padt(own, card(3), 1)
	padt(own, card(1), 0)
	padt(own, card(1), 4)
	padt(own, card(1), 65535)
	padt(all, card(1), 1)
	padt(card(1), card(1), 1)
	padt(api.Mac{}, card(1), 1)
	padt(own, own, 1)
	live(t, c, Session{one, "u", false}, Session{two, "v", false}, Session{three, "u", false})
	gone(t, c)
	use(t, c, one)
	padt(own, card(1), 1)
	live(t, c, Session{two, "v", false}, Session{three, "u", false})
	padt(own, card(1), 1)
	// No service is asked for; whatever tags there are.
	padt(own, card(2), 3, service("z"), service(""), uniq("w"))
	padt(own, card(1), 2, service("z"))
	live(t, c)
	gone(t, c, one, three, two)
}

func TestP702PadtThatIsNone(t *testing.T) {
	c := conc(t, 60)
	id := ask(t, c, card(1), "u", 1)
	good := disc(own, card(1), api.Padt, 1)
	for _, change := range byhand.NoDisc() {
		if got := c.Take(change.Make(good), 0); len(got) != 0 || len(c.Live()) != 1 {
			t.Errorf("%s: %x is sent, %v are live", change.What, got, c.Live())
		}
	}
	live(t, c, Session{id, "u", false})
	good.Data += "filling"
	sent(t, c.Take(good, 0))
	live(t, c)
	gone(t, c, id)
}

// What is answered is the caller's.
func TestP702AnswersAreNew(t *testing.T) {
	c := conc(t, 2)
	f := padr(card(1), "", 0)
	first := c.Take(f, 0)
	kept := first[0]
	first[0] = api.Ether{}
	sent(t, c.Take(f, 0), kept)
}
