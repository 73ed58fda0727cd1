package host

import (
	"math"
	"slices"
	"strings"
	"testing"

	"tollgate/api"
	"tollgate/byhand"
)

// P801, P805 and P807, and what the tests of all promises share.

var (
	own   = api.Mac{6, 0, 0, 0, 0, 1}
	ac    = api.Mac{2, 0, 0, 0, 0, 9}
	other = api.Mac{2, 0, 0, 0, 0, 8}
	all   = api.Mac{255, 255, 255, 255, 255, 255}
	none  = api.Mac{}
)

const session = 7

var (
	packet  = byhand.Packet
	disc    = byhand.Disc
	talk    = byhand.Talk
	service = byhand.Service
	uniq    = byhand.Uniq
	cookie  = byhand.Cookie
)

var names = []string{"Idle", "Asked", "Chosen", "Live", "Failed"}

// made makes a host of the card own.
func made(t *testing.T, service, uniq string, retry, wait int) *Host {
	t.Helper()
	h, err := New(own, service, uniq, retry, wait)
	if h == nil || err != api.OK {
		t.Fatalf("New = %v, %d", h, err)
	}
	return h
}

// in makes a host of service s and uniq u in a state, with the concentrator ac and the session above where the state has them.
func in(t *testing.T, state int) *Host {
	t.Helper()
	h := made(t, "s", "u", 1, 2)
	switch state {
	case Asked:
		h.Start()
	case Chosen:
		h.Start()
		h.Take(pado(service("s"), cookie("c"), uniq("u")))
	case Live:
		h = in(t, Chosen)
		h.Take(pads(session, uniq("u")))
	case Failed:
		h = in(t, Chosen)
		h.Take(pads(0, uniq("u")))
	}
	is(t, h, state)
	return h
}

// is holds a host's state against what it should be, with the concentrator ac and the session above where the state has them.
func is(t *testing.T, h *Host, state int) {
	t.Helper()
	switch state {
	case Chosen:
		has(t, h, state, ac, 0)
	case Live:
		has(t, h, state, ac, session)
	default:
		has(t, h, state, none, 0)
	}
}

func has(t *testing.T, h *Host, state int, conc api.Mac, session int) {
	t.Helper()
	if s, m, n := h.State(); s != state || m != conc || n != session {
		t.Errorf("State() = %d, %v, %d, not %d, %v, %d", s, m, n, state, conc, session)
	}
}

// sent holds frames against what they should be.
func sent(t *testing.T, got []api.Ether, want ...api.Ether) {
	t.Helper()
	if !slices.Equal(got, want) {
		t.Errorf("%x is sent, not %x", got, want)
	}
}

func pado(tags ...api.Tag) api.Ether { return disc(own, ac, api.Pado, 0, tags...) }

func pads(session int, tags ...api.Tag) api.Ether { return disc(own, ac, api.Pads, session, tags...) }

func padt(session int) api.Ether { return disc(own, ac, api.Padt, session) }

// padi and padr are what a host of service s and uniq u sends, that was offered the cookie c.
func padi() api.Ether { return disc(all, own, api.Padi, 0, service("s"), uniq("u")) }

func padr() api.Ether {
	return disc(ac, own, api.Padr, 0, service("s"), cookie("c"), uniq("u"))
}

func TestP801New(t *testing.T) {
	good, bad := api.OK, api.ErrArg
	for _, x := range []struct {
		what                       string
		service, uniq, retry, wait int
		want                       api.Errno
	}{
		{"the least", 0, 0, 0, 1, good},
		{"the most", 40, 40, 10, 100, good},
		{"a service of 40", 40, 0, 3, 5, good},
		{"a service of 41", 41, 0, 3, 5, bad},
		{"a service of 1000", 1000, 0, 3, 5, bad},
		{"a uniq of 40", 0, 40, 3, 5, good},
		{"a uniq of 41", 0, 41, 3, 5, bad},
		{"a uniq of 1000", 0, 1000, 3, 5, bad},
		{"retry -1", 1, 1, -1, 5, bad},
		{"retry 0", 1, 1, 0, 5, good},
		{"retry 10", 1, 1, 10, 5, good},
		{"retry 11", 1, 1, 11, 5, bad},
		{"the greatest retry", 1, 1, math.MaxInt, 5, bad},
		{"the least retry", 1, 1, math.MinInt, 5, bad},
		{"wait -1", 1, 1, 3, -1, bad},
		{"wait 0", 1, 1, 3, 0, bad},
		{"wait 1", 1, 1, 3, 1, good},
		{"wait 100", 1, 1, 3, 100, good},
		{"wait 101", 1, 1, 3, 101, bad},
		{"the greatest wait", 1, 1, 3, math.MaxInt, bad},
		{"the least wait", 1, 1, 3, math.MinInt, bad},
	} {
		h, err := New(own, strings.Repeat("s", x.service), strings.Repeat("u", x.uniq), x.retry, x.wait)
		if err != x.want || (h == nil) != (x.want != api.OK) {
			t.Errorf("%s: New = %v, %d, not %d", x.what, h, err, x.want)
		}
		if h != nil {
			has(t, h, Idle, none, 0)
		}
	}
}

func TestP801AnyCardAndText(t *testing.T) {
	for _, m := range []api.Mac{{}, {1}, own, ac, all} {
		for _, s := range []string{"", "s", "\x00", "\xff\xfe", strings.Repeat("\x01", 40)} {
			h, err := New(m, s, s, 0, 1)
			if err != api.OK {
				t.Fatalf("New of card %v, %q = %d", m, s, err)
			}
			tags := []api.Tag{service(s)}
			if s != "" {
				tags = append(tags, uniq(s))
			}
			sent(t, h.Start(), disc(all, m, api.Padi, 0, tags...))
		}
	}
}

// in looks at the state of each.
func TestP801State(t *testing.T) {
	for state, name := range names {
		h := in(t, state)
		if got, _, _ := h.State(); got != state {
			t.Errorf("%s: State() = %d, not %d", name, got, state)
		}
		is(t, h, state)
	}
	for _, n := range []int{1, 255, 256, 65535} {
		h := in(t, Chosen)
		h.Take(pads(n, uniq("u")))
		has(t, h, Live, ac, n)
	}
}

func TestP801StatesByNumber(t *testing.T) {
	for want, got := range []int{Idle, Asked, Chosen, Live, Failed} {
		if got != want {
			t.Errorf("state %d is %d", want, got)
		}
	}
}

// of tells what Data tells, in one value.
type of struct {
	data string
	ok   bool
}

func dataOf(h *Host, f api.Ether) of {
	data, ok := h.Data(f)
	return of{data, ok}
}

func TestP805Data(t *testing.T) {
	h := in(t, Live)
	for _, data := range []string{"", "x", "\x00\x01", "\xff\x03\xc0\x21", strings.Repeat("d", 1494)} {
		for _, filling := range []string{"", "\x00", "filling", strings.Repeat("f", 2000)} {
			f := talk(own, ac, session, data)
			f.Data += filling
			if got := dataOf(h, f); got != (of{data, true}) {
				t.Errorf("Data of %d bytes, %d of filling = %d bytes, %v", len(data), len(filling), len(got.data), got.ok)
			}
		}
	}
	is(t, h, Live)
}

func TestP805DataThatIsNone(t *testing.T) {
	h := in(t, Live)
	good := func() api.Ether { return talk(own, ac, session, "ppp") }
	for _, x := range byhand.NoSession() {
		if got := dataOf(h, x.Make(good())); got != (of{}) {
			t.Errorf("%s: Data = %v", x.What, got)
		}
	}
	for what, change := range map[string]func(*api.Ether){
		"to another card":          func(f *api.Ether) { f.Dst[5]++ },
		"to everyone":              func(f *api.Ether) { f.Dst = all },
		"to the concentrator":      func(f *api.Ether) { f.Dst = ac },
		"from another":             func(f *api.Ether) { f.Src = other },
		"from no card":             func(f *api.Ether) { f.Src = none },
		"from itself":              func(f *api.Ether) { f.Src = own },
		"the other way":            func(f *api.Ether) { f.Dst, f.Src = f.Src, f.Dst },
		"session 0":                func(f *api.Ether) { f.Data = packet(0, 0, "ppp") },
		"the session ahead":        func(f *api.Ether) { f.Data = packet(0, session-1, "ppp") },
		"the session behind":       func(f *api.Ether) { f.Data = packet(0, session+1, "ppp") },
		"a session of higher bits": func(f *api.Ether) { f.Data = packet(0, session+256, "ppp") },
		"session 65535":            func(f *api.Ether) { f.Data = packet(0, 65535, "ppp") },
	} {
		f := good()
		change(&f)
		if got := dataOf(h, f); got != (of{}) {
			t.Errorf("%s: Data = %v", what, got)
		}
	}
	is(t, h, Live)
	if got := dataOf(h, good()); got != (of{"ppp", true}) {
		t.Errorf("then Data = %v", got)
	}
}

func TestP805DataInOtherStates(t *testing.T) {
	for state, name := range names {
		if state == Live {
			continue
		}
		h := in(t, state)
		for _, n := range []int{0, session} {
			for _, src := range []api.Mac{ac, none} {
				if got := dataOf(h, talk(own, src, n, "ppp")); got != (of{}) {
					t.Errorf("%s: Data of session %d = %v", name, n, got)
				}
			}
		}
		is(t, h, state)
	}
}

func TestP805Frame(t *testing.T) {
	h := in(t, Live)
	for _, data := range []string{"", "x", "\x00\x01", strings.Repeat("d", 1494)} {
		if f, err := h.Frame(data); f != talk(ac, own, session, data) || err != api.OK {
			t.Errorf("Frame of %d bytes = %x, %d", len(data), f, err)
		}
	}
	for _, n := range []int{1495, 1500, 70000} {
		if f, err := h.Frame(strings.Repeat("d", n)); f != (api.Ether{}) || err != api.ErrLong {
			t.Errorf("Frame of %d bytes = %x, %d", n, f, err)
		}
	}
	is(t, h, Live)
}

func TestP805FrameInOtherStates(t *testing.T) {
	for state, name := range names {
		if state == Live {
			continue
		}
		h := in(t, state)
		for _, n := range []int{0, 1, 1494, 1495} {
			if f, err := h.Frame(strings.Repeat("d", n)); f != (api.Ether{}) || err != api.ErrState {
				t.Errorf("%s: Frame of %d bytes = %x, %d", name, n, f, err)
			}
		}
		is(t, h, state)
	}
}

// What was Live is so no more, by whichever way it went.
func TestP805BehindTheEnd(t *testing.T) {
	for what, end := range map[string]func(*Host){
		"Stop": func(h *Host) { h.Stop() },
		"Padt": func(h *Host) { h.Take(padt(session)) },
	} {
		h := in(t, Live)
		end(h)
		if got := dataOf(h, talk(own, ac, session, "ppp")); got != (of{}) {
			t.Errorf("%s: Data = %v", what, got)
		}
		if f, err := h.Frame("ppp"); f != (api.Ether{}) || err != api.ErrState {
			t.Errorf("%s: Frame = %x, %d", what, f, err)
		}
	}
}

func TestP807NoHost(t *testing.T) {
	for what, h := range map[string]*Host{"nil": nil, "zero": {}} {
		for range 3 {
			if got := slices.Concat(h.Start(), h.Tick(), h.Take(pado(service(""))), h.Take(disc(none, none, api.Pado, 0, service(""))), h.Take(api.Ether{}), h.Stop()); len(got) != 0 {
				t.Errorf("%s: %x is sent", what, got)
			}
			h.Start()
			if got := dataOf(h, talk(none, none, 0, "ppp")); got != (of{}) {
				t.Errorf("%s: Data = %v", what, got)
			}
			for _, data := range []string{"", "ppp", strings.Repeat("d", 1495)} {
				if f, err := h.Frame(data); f != (api.Ether{}) || err != api.ErrArg {
					t.Errorf("%s: Frame = %x, %d", what, f, err)
				}
			}
			has(t, h, 0, none, 0)
		}
		if h != nil && !isZero(h) {
			t.Errorf("zero: it is now %v", *h)
		}
	}
}

// isZero tells whether nothing is kept by a zero host.
func isZero(h *Host) bool {
	return h.mac == none && h.service+h.uniq == "" && h.retry|h.wait|h.state|h.session|h.again|h.ticks == 0 && h.conc == none && h.asked == nil
}
