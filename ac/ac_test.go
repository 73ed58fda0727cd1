package ac

import (
	"math"
	"slices"
	"strconv"
	"strings"
	"testing"

	"tollgate/api"
	"tollgate/byhand"
	"tollgate/cookie"
)

// P701, P703, P704 and P706, and what the tests of all promises share.

var (
	own = api.Mac{2, 0, 0, 0, 0, 9}
	all = api.Mac{255, 255, 255, 255, 255, 255}
)

const secret = "s"

// card tells a subscriber's card; none of them is own.
func card(n int) api.Mac { return api.Mac{6, 0, 0, byte(n >> 16), byte(n >> 8), byte(n)} }

var (
	packet  = byhand.Packet
	disc    = byhand.Disc
	talk    = byhand.Talk
	name    = byhand.Name
	service = byhand.Service
	uniq    = byhand.Uniq
	proof   = byhand.Cookie
)

// baked tells the cookie that is good for a card and a service at a time.
func baked(m api.Mac, what string, time int) api.Tag {
	return proof(cookie.Make(secret, m, what, time))
}

// conc makes a concentrator of the card own.
func conc(t *testing.T, most int, services ...string) *Conc {
	t.Helper()
	c, err := New(own, "ac", services, secret, most)
	if c == nil || err != api.OK {
		t.Fatalf("New = %v, %d", c, err)
	}
	return c
}

// padr tells the Padr of a card, with a good cookie; the tags stand behind it.
func padr(m api.Mac, what string, time int, tags ...api.Tag) api.Ether {
	return disc(own, m, api.Padr, 0, append([]api.Tag{service(what), baked(m, what, time)}, tags...)...)
}

// ask gets the session of a card and a uniq, which must have that number.
func ask(t *testing.T, c *Conc, m api.Mac, u string, want int) Id {
	t.Helper()
	sent(t, c.Take(padr(m, "", 0, uniq(u)), 0), disc(m, own, api.Pads, want, service(""), uniq(u)))
	return Id{Mac: m, Session: want}
}

// refused asks for a session that there is no room for.
func refused(t *testing.T, c *Conc, m api.Mac, u string) {
	t.Helper()
	sent(t, c.Take(padr(m, "", 0, uniq(u)), 0), disc(m, own, api.Pads, 0, service(""), api.Tag{Type: api.TagSystem}, uniq(u)))
}

// sent holds frames against what they should be.
func sent(t *testing.T, got []api.Ether, want ...api.Ether) {
	t.Helper()
	if !slices.Equal(got, want) {
		t.Errorf("%x is sent, not %x", got, want)
	}
}

// live holds the sessions against what they should be.
func live(t *testing.T, c *Conc, want ...Session) {
	t.Helper()
	if got := c.Live(); !slices.Equal(got, want) {
		t.Errorf("Live() = %v, not %v", got, want)
	}
}

// gone holds what went against what should have gone.
func gone(t *testing.T, c *Conc, want ...Id) {
	t.Helper()
	if got := c.Gone(); !slices.Equal(got, want) {
		t.Errorf("Gone() = %v, not %v", got, want)
	}
}

// closed closes a session that is one.
func closed(t *testing.T, c *Conc, id Id) {
	t.Helper()
	got, err := c.Close(id)
	if err != api.OK {
		t.Errorf("Close(%v) = %d", id, err)
	}
	sent(t, got, disc(id.Mac, own, api.Padt, id.Session))
}

// use brings a session's frame, so that it is used.
func use(t *testing.T, c *Conc, id Id) {
	t.Helper()
	if got, b, ok := c.Data(talk(own, id.Mac, id.Session, "ppp")); got != id || b != "ppp" || !ok {
		t.Errorf("Data of %v = %v, %q, %v", id, got, b, ok)
	}
}

// repeated tells n services of a length.
func repeated(n, size int) []string {
	return slices.Repeat([]string{strings.Repeat("s", size)}, n)
}

func TestP701New(t *testing.T) {
	good, bad := api.OK, api.ErrArg
	for _, x := range []struct {
		what     string
		name     int
		services []string
		most     int
		want     api.Errno
	}{
		{"no name", 0, nil, 1, bad},
		{"a name of 1", 1, nil, 1, good},
		{"a name of 40", 40, nil, 1, good},
		{"a name of 41", 41, nil, 1, bad},
		{"a name of 1000", 1000, nil, 1, bad},
		{"8 services", 2, repeated(8, 1), 1, good},
		{"9 services", 2, repeated(9, 1), 1, bad},
		{"9 empty services", 2, repeated(9, 0), 1, bad},
		{"100 services", 2, repeated(100, 1), 1, bad},
		{"services without a byte", 2, repeated(8, 0), 1, good},
		{"services of 40", 2, repeated(8, 40), 1, good},
		{"a service of 41", 2, repeated(1, 41), 1, bad},
		{"a first service of 41", 2, append(repeated(1, 41), repeated(7, 40)...), 1, bad},
		{"a last service of 41", 2, append(repeated(7, 40), repeated(1, 41)...), 1, bad},
		{"most 0", 2, nil, 0, bad},
		{"most -1", 2, nil, -1, bad},
		{"most 2", 2, nil, 2, good},
		{"most 59", 2, nil, 59, good},
		{"most MaxSessions", 2, nil, 60, good},
		{"most beyond", 2, nil, 61, bad},
		{"the greatest most", 2, nil, math.MaxInt, bad},
		{"the least most", 2, nil, math.MinInt, bad},
	} {
		c, err := New(own, strings.Repeat("n", x.name), x.services, secret, x.most)
		if err != x.want || (c == nil) != (x.want != api.OK) {
			t.Errorf("%s: New = %v, %d, not %d", x.what, c, err, x.want)
		}
	}
}

func TestP701NewHasNoSession(t *testing.T) {
	c := conc(t, 2)
	live(t, c)
	gone(t, c)
	ask(t, c, card(1), "u", 1)
}

func TestP701AnyCardAndSecret(t *testing.T) {
	for _, m := range []api.Mac{{}, {1}, own, all} {
		for _, s := range []string{"", "s", "\x00", strings.Repeat("s", 10000)} {
			c, err := New(m, "\x00", nil, s, 1)
			if err != api.OK {
				t.Fatalf("New of card %v, a secret of %d bytes = %d", m, len(s), err)
			}
			sent(t, c.Take(disc(all, card(1), api.Padi, 0, service("")), 7),
				disc(card(1), m, api.Pado, 0, name("\x00"), service(""), proof(cookie.Make(s, card(1), "", 7))))
		}
	}
}

// The services are neither kept nor changed, nor is the room behind them.
func TestP701ServicesAreNotKept(t *testing.T) {
	room := []string{"x", "y", "spare", "room"}
	c, err := New(own, "ac", room[:2], secret, 2)
	if err != api.OK {
		t.Fatal(err)
	}
	room[0], room[1] = "z", "z"
	sent(t, c.Take(disc(all, card(1), api.Padi, 0, service("")), 0),
		disc(card(1), own, api.Pado, 0, name("ac"), service(""), service("x"), service("y"), baked(card(1), "", 0)))
	if !slices.Equal(room, []string{"z", "z", "spare", "room"}) {
		t.Errorf("the services are now %q", room)
	}
}

func TestP703Data(t *testing.T) {
	c := conc(t, 4)
	id := ask(t, c, card(1), "u", 1)
	for _, data := range []string{"", "x", "\x00\x01", strings.Repeat("d", 1494)} {
		for _, filling := range []string{"", "\x00", "filling", strings.Repeat("f", 2000)} {
			f := talk(own, card(1), 1, data)
			f.Data += filling
			if got, b, ok := c.Data(f); got != id || b != data || !ok {
				t.Errorf("Data of %d bytes, %d of filling = %v, %d bytes, %v", len(data), len(filling), got, len(b), ok)
			}
		}
	}
	live(t, c, Session{id, "u", true})
}

func TestP703DataOfNoSession(t *testing.T) {
	c := conc(t, 4)
	one, two := ask(t, c, card(1), "u", 1), ask(t, c, card(2), "v", 2)
	good := func() api.Ether { return talk(own, card(1), 1, "ppp") }
	for _, x := range byhand.NoSession() {
		if id, b, ok := c.Data(x.Make(good())); id != (Id{}) || b != "" || ok {
			t.Errorf("%s: Data = %v, %q, %v", x.What, id, b, ok)
		}
	}
	for what, change := range map[string]func(*api.Ether){
		"another Dst":            func(f *api.Ether) { f.Dst[5]++ },
		"to everyone":            func(f *api.Ether) { f.Dst = all },
		"to itself":              func(f *api.Ether) { f.Dst = f.Src },
		"another card":           func(f *api.Ether) { f.Src = card(3) },
		"a card with a session":  func(f *api.Ether) { f.Src = card(2) },
		"from the concentrator":  func(f *api.Ether) { f.Src = own },
		"another card's session": func(f *api.Ether) { f.Data = packet(0, 2, "ppp") },
		"a session that is none": func(f *api.Ether) { f.Data = packet(0, 3, "ppp") },
		"session 0":              func(f *api.Ether) { f.Data = packet(0, 0, "ppp") },
		"session 65535":          func(f *api.Ether) { f.Data = packet(0, 65535, "ppp") },
	} {
		f := good()
		change(&f)
		if id, b, ok := c.Data(f); id != (Id{}) || b != "" || ok {
			t.Errorf("%s: Data = %v, %q, %v", what, id, b, ok)
		}
	}
	live(t, c, Session{one, "u", false}, Session{two, "v", false})
	use(t, c, one)
	live(t, c, Session{one, "u", true}, Session{two, "v", false})
	closed(t, c, one)
	if id, b, ok := c.Data(good()); id != (Id{}) || b != "" || ok {
		t.Errorf("closed: Data = %v, %q, %v", id, b, ok)
	}
	live(t, c, Session{two, "v", false})
}

func TestP703Frame(t *testing.T) {
	c := conc(t, 4)
	id := ask(t, c, card(1), "u", 1)
	for _, data := range []string{"", "x", "\x00\xff", strings.Repeat("d", 1493), strings.Repeat("d", 1494)} {
		if f, err := c.Frame(id, data); f != talk(card(1), own, 1, data) || err != api.OK {
			t.Errorf("Frame of %d bytes = %x, %d", len(data), f, err)
		}
	}
	for _, size := range []int{1495, 1500, 70000} {
		if f, err := c.Frame(id, strings.Repeat("d", size)); f != (api.Ether{}) || err != api.ErrLong {
			t.Errorf("Frame of %d bytes = %x, %d", size, f, err)
		}
	}
	live(t, c, Session{id, "u", false})
}

// strangers tells ids that are no sessions beside (card 1, 1) and (card 2, 2).
func strangers() []Id {
	return []Id{
		{}, {card(1), 0}, {card(1), 2}, {card(2), 1}, {card(3), 1}, {card(1), 3}, {own, 1}, {all, 1}, {api.Mac{}, 1},
		{card(1), -1}, {card(1), 65535}, {card(1), 65536}, {card(1), 65537}, {card(1), math.MaxInt}, {card(1), math.MinInt},
	}
}

func TestP703FrameOfNoSession(t *testing.T) {
	c := conc(t, 4)
	ask(t, c, card(1), "u", 1)
	ask(t, c, card(2), "u", 2)
	for _, id := range strangers() {
		for _, data := range []string{"", "x", strings.Repeat("d", 1495)} {
			if f, err := c.Frame(id, data); f != (api.Ether{}) || err != api.ErrIndex {
				t.Errorf("Frame to %v, %d bytes = %x, %d", id, len(data), f, err)
			}
		}
	}
}

func TestP703Close(t *testing.T) {
	c := conc(t, 4)
	one, two := ask(t, c, card(1), "u", 1), ask(t, c, card(2), "v", 2)
	use(t, c, two)
	closed(t, c, one)
	live(t, c, Session{two, "v", true})
	if f, err := c.Frame(one, "x"); f != (api.Ether{}) || err != api.ErrIndex {
		t.Errorf("Frame to what is closed = %x, %d", f, err)
	}
	if got, err := c.Close(one); len(got) != 0 || err != api.ErrIndex {
		t.Errorf("Close of what is closed = %x, %d", got, err)
	}
	closed(t, c, two)
	live(t, c)
	gone(t, c, one, two)
}

func TestP703CloseOfNoSession(t *testing.T) {
	c := conc(t, 4)
	one, two := ask(t, c, card(1), "u", 1), ask(t, c, card(2), "v", 2)
	for _, id := range strangers() {
		if got, err := c.Close(id); len(got) != 0 || err != api.ErrIndex {
			t.Errorf("Close(%v) = %x, %d", id, got, err)
		}
	}
	live(t, c, Session{one, "u", false}, Session{two, "v", false})
	gone(t, c)
}

// By numbers, not by cards or by age: the cards come from the greatest down, and the numbers go round.
func TestP704LiveBySession(t *testing.T) {
	c := conc(t, 60)
	spin(t, c, 65505)
	for i := range 60 {
		number := (65505+i)%65535 + 1
		ask(t, c, card(100-i/2), strconv.Itoa(i), number)
	}
	var want []Session
	for i := range 60 {
		n := (30 + i) % 60 // those behind the wrap come first
		want = append(want, Session{Id{card(100 - n/2), (65505+n)%65535 + 1}, strconv.Itoa(n), false})
	}
	if want[0].Session != 1 || want[59].Session != 65535 {
		t.Fatalf("the test is wrong: %v", want)
	}
	for range 3 {
		live(t, c, want...)
	}
}

func TestP704LiveIsNew(t *testing.T) {
	c := conc(t, 4)
	one, two := ask(t, c, card(1), "u", 1), ask(t, c, card(2), "v", 2)
	got := c.Live()
	got[0] = Session{}
	_ = append(got[:1], Session{})
	live(t, c, Session{one, "u", false}, Session{two, "v", false})
}

func TestP704Gone(t *testing.T) {
	c := conc(t, 8)
	var ids []Id
	for i := range 5 {
		ids = append(ids, ask(t, c, card(i), "u", i+1))
	}
	gone(t, c)
	padt := func(id Id) { sent(t, c.Take(disc(own, id.Mac, api.Padt, id.Session), 0)) }
	closed(t, c, ids[3])
	padt(ids[0])
	closed(t, c, ids[2])
	padt(ids[0])
	c.Close(ids[3])
	first := c.Gone()
	if !slices.Equal(first, []Id{ids[3], ids[0], ids[2]}) {
		t.Errorf("Gone() = %v", first)
	}
	gone(t, c)
	padt(ids[4])
	gone(t, c, ids[4])
	gone(t, c)
	if !slices.Equal(first, []Id{ids[3], ids[0], ids[2]}) {
		t.Errorf("what was told before is now %v", first)
	}
	live(t, c, Session{ids[1], "u", false})
}

func TestP704GoneIsTheCallers(t *testing.T) {
	c := conc(t, 8)
	a, b := ask(t, c, card(1), "u", 1), ask(t, c, card(2), "u", 2)
	closed(t, c, a)
	first := c.Gone()
	_ = append(first[:0], Id{}, Id{}, Id{})
	closed(t, c, b)
	second := c.Gone()
	_ = append(first[:0], Id{}, Id{}, Id{})
	if !slices.Equal(second, []Id{b}) {
		t.Errorf("Gone() = %v, not %v", second, b)
	}
}

func TestP706NilAndZero(t *testing.T) {
	var none *Conc
	zero := new(Conc)
	for what, c := range map[string]*Conc{"nil": none, "zero": zero} {
		m := api.Mac{} // a zero one may have this card
		for _, f := range []api.Ether{
			{},
			{Type: api.TypeDisc},
			disc(all, card(1), api.Padi, 0, service("")),
			disc(all, card(1), api.Padi, 0, service(""), uniq("u")),
			disc(m, card(1), api.Padr, 0, service(""), proof(cookie.Make("", card(1), "", 0))),
			disc(m, card(1), api.Padr, 0, service("x"), proof(cookie.Make("", card(1), "x", 0))),
			disc(m, card(1), api.Padt, 1),
		} {
			if got := c.Take(f, 0); len(got) != 0 {
				t.Errorf("%s: Take(%x) = %x", what, f, got)
			}
		}
		for _, f := range []api.Ether{{}, {Type: api.TypeSession}, talk(m, card(1), 1, "x"), talk(m, m, 0, "")} {
			if id, b, ok := c.Data(f); id != (Id{}) || b != "" || ok {
				t.Errorf("%s: Data(%x) = %v, %q, %v", what, f, id, b, ok)
			}
		}
		for _, id := range []Id{{}, {card(1), 1}, {m, 1}} {
			if f, err := c.Frame(id, "x"); f != (api.Ether{}) || err != api.ErrArg {
				t.Errorf("%s: Frame(%v) = %x, %d", what, id, f, err)
			}
			if f, err := c.Frame(id, strings.Repeat("x", 1495)); f != (api.Ether{}) || err != api.ErrArg {
				t.Errorf("%s: Frame(%v) of too much = %x, %d", what, id, f, err)
			}
			if got, err := c.Close(id); len(got) != 0 || err != api.ErrArg {
				t.Errorf("%s: Close(%v) = %x, %d", what, id, got, err)
			}
		}
		if len(c.Live()) != 0 || len(c.Gone()) != 0 {
			t.Errorf("%s: Live() = %v, Gone() = %v", what, c.Live(), c.Gone())
		}
	}
}
