package host

import (
	"slices"
	"strings"
	"testing"

	"tollgate/api"
	"tollgate/byhand"
)

// P804.

// fitting tells for each state the frame that it takes, and the state behind it.
func fitting() map[int]struct {
	f  api.Ether
	to int
} {
	return map[int]struct {
		f  api.Ether
		to int
	}{
		Asked:  {pado(service("s"), cookie("c"), uniq("u")), Chosen},
		Chosen: {pads(session, service("s"), uniq("u")), Live},
		Live:   {padt(session), Idle},
	}
}

// nothing takes a frame of which nothing may come.
func nothing(t *testing.T, what string, h *Host, f api.Ether) {
	t.Helper()
	state, conc, n := h.State()
	if got := h.Take(f); len(got) != 0 {
		t.Errorf("%s, %s: %x is sent", names[state], what, got)
	}
	if s, c, k := h.State(); s != state || c != conc || k != n {
		t.Errorf("%s, %s: State() = %d, %v, %d", names[state], what, s, c, k)
	}
}

// One state's frame is nothing in each other.
func TestP804EachInItsState(t *testing.T) {
	for state := range names {
		for of, x := range fitting() {
			h := in(t, state)
			if of != state {
				nothing(t, names[of]+"'s frame", h, x.f)
				continue
			}
			got := h.Take(x.f)
			is(t, h, x.to)
			if state == Asked {
				sent(t, got, padr())
			} else {
				sent(t, got)
			}
		}
	}
}

func TestP804OtherCodes(t *testing.T) {
	code := map[int]int{Asked: api.Pado, Chosen: api.Pads, Live: api.Padt}
	for state := range names {
		h := in(t, state)
		for c := range 256 {
			if want, ok := code[state]; ok && c == want {
				continue
			}
			for _, n := range []int{0, session} {
				nothing(t, "another code", h, disc(own, ac, c, n, service("s"), cookie("c"), uniq("u")))
			}
		}
	}
}

func TestP804NothingOfWhatIsNoDiscovery(t *testing.T) {
	for state, x := range fitting() {
		h := in(t, state)
		for _, change := range byhand.NoDisc() {
			nothing(t, change.What, h, change.Make(x.f))
		}
		nothing(t, "an empty frame", h, api.Ether{})
		for _, dst := range []api.Mac{all, ac, other, none, {6, 0, 0, 0, 0, 2}, {7, 0, 0, 0, 0, 1}} {
			f := x.f
			f.Dst = dst
			nothing(t, "to another card", h, f)
		}
		h.Take(x.f)
		is(t, h, x.to)
	}
}

func TestP804FillingAndWhatIsBehindTheEnd(t *testing.T) {
	for _, change := range byhand.Filled() {
		for state, x := range fitting() {
			h := in(t, state)
			h.Take(change.Make(x.f))
			is(t, h, x.to)
		}
	}
}

// What stands behind the tags' end is no tag.
func TestP804TagsBehindTheEnd(t *testing.T) {
	f := pado(service("s"))
	f.Data = byhand.Behind(f.Data, "\x00\x00"+byhand.Tags([]api.Tag{uniq("u")}))
	nothing(t, "a uniq behind the end", in(t, Asked), f)
	f = pado(uniq("u"))
	f.Data = byhand.Behind(f.Data, "\x00\x00"+byhand.Tags([]api.Tag{service("s")}))
	nothing(t, "a service behind the end", in(t, Asked), f)
}

func TestP804PadoWithASession(t *testing.T) {
	h := in(t, Asked)
	for _, n := range []int{1, session, 256, 65535} {
		nothing(t, "a session", h, disc(own, ac, api.Pado, n, service("s"), cookie("c"), uniq("u")))
	}
}

// offered takes a Pado that the host chooses, if it is good.
func offered(t *testing.T, what string, h *Host, f api.Ether, good bool) {
	t.Helper()
	if !good {
		nothing(t, what, h, f)
		return
	}
	if got := h.Take(f); len(got) != 1 {
		t.Errorf("%s: %x is sent", what, got)
	}
	is(t, h, Chosen)
}

func TestP804PadoService(t *testing.T) {
	many := func(last string) []api.Tag {
		return append(append([]api.Tag{uniq("u")}, slices.Repeat([]api.Tag{service("x")}, 18)...), service(last))
	}
	for _, x := range []struct {
		what, service string
		tags          []api.Tag
		good          bool
	}{
		{"the service", "s", []api.Tag{service("s"), uniq("u")}, true},
		{"none", "s", []api.Tag{uniq("u")}, false},
		{"no tags", "s", nil, false},
		{"another", "s", []api.Tag{service("x"), uniq("u")}, false},
		{"a longer one", "s", []api.Tag{service("s\x00"), uniq("u")}, false},
		{"in capitals", "s", []api.Tag{service("S"), uniq("u")}, false},
		{"an empty one", "s", []api.Tag{service(""), uniq("u")}, false},
		{"the first of two", "s", []api.Tag{service("s"), service("x"), uniq("u")}, true},
		{"the last of two", "s", []api.Tag{service("x"), service("s"), uniq("u")}, true},
		{"behind the uniq", "s", []api.Tag{uniq("u"), service(""), service("s")}, true},
		{"the last of 20 tags", "s", many("s"), true},
		{"none of 20 tags", "s", many("t"), false},
		{"in another tag", "s", []api.Tag{byhand.Name("s"), service("x"), uniq("u")}, false},
		{"empty, none", "", []api.Tag{uniq("u")}, false},
		{"empty, an empty one", "", []api.Tag{service(""), uniq("u")}, true},
		{"empty, another", "", []api.Tag{service("s"), uniq("u")}, false},
		{"empty, the second", "", []api.Tag{service("s"), service(""), uniq("u")}, true},
	} {
		h := made(t, x.service, "u", 1, 2)
		h.Start()
		offered(t, x.what, h, pado(x.tags...), x.good)
	}
}

// uniqs are the tags that a Pado and a Pads may have of that kind, for a host of a uniq.
func uniqs() []struct {
	what, uniq string
	tags       []api.Tag
	good       bool
} {
	return []struct {
		what, uniq string
		tags       []api.Tag
		good       bool
	}{
		{"the uniq", "u", []api.Tag{uniq("u")}, true},
		{"none", "u", nil, false},
		{"another", "u", []api.Tag{uniq("v")}, false},
		{"an empty one", "u", []api.Tag{uniq("")}, false},
		{"a longer one", "u", []api.Tag{uniq("uu")}, false},
		{"the second of two", "u", []api.Tag{uniq("v"), uniq("u")}, false},
		{"behind an empty one", "u", []api.Tag{uniq(""), uniq("u")}, false},
		{"the first of two", "u", []api.Tag{uniq("u"), uniq("v")}, true},
		{"in another tag", "u", []api.Tag{cookie("u")}, false},
		{"of 40 bytes", strings.Repeat("u", 40), []api.Tag{uniq(strings.Repeat("u", 40))}, true},
		{"of 40 bytes, one fewer", strings.Repeat("u", 40), []api.Tag{uniq(strings.Repeat("u", 39))}, false},
		{"of noughts", "\x00\x00", []api.Tag{uniq("\x00\x00")}, true},
		{"empty, none", "", nil, true},
		{"empty, an empty one", "", []api.Tag{uniq("")}, true},
		{"empty, another", "", []api.Tag{uniq("v")}, true},
		{"empty, two", "", []api.Tag{uniq("v"), uniq("w")}, true},
	}
}

func TestP804PadoUniq(t *testing.T) {
	for _, x := range uniqs() {
		h := made(t, "s", x.uniq, 1, 2)
		h.Start()
		offered(t, x.what, h, pado(append([]api.Tag{service("s")}, x.tags...)...), x.good)
	}
}

// The concentrator is whoever sent the Pado, and the first one that fits is taken.
func TestP804PadoFromAnyCard(t *testing.T) {
	for _, m := range []api.Mac{ac, other, none, all, own} {
		h := in(t, Asked)
		sent(t, h.Take(disc(own, m, api.Pado, 0, service("s"), uniq("u"))), disc(m, own, api.Padr, 0, service("s"), uniq("u")))
		has(t, h, Chosen, m, 0)
		nothing(t, "a second Pado", h, disc(own, other, api.Pado, 0, service("s"), uniq("u")))
		h.Take(disc(own, m, api.Pads, session, uniq("u")))
		has(t, h, Live, m, session)
	}
}

// As long a cookie as a Pado can have still goes into the Padr.
func TestP804TheLongestCookie(t *testing.T) {
	for _, x := range []struct {
		uniq string
		n    int
	}{
		{"u", 1494 - 5 - 5 - 4}, {"", 1494 - 5 - 4}, {strings.Repeat("u", 40), 1494 - 5 - 44 - 4},
	} {
		h := made(t, "s", x.uniq, 1, 2)
		h.Start()
		tags := []api.Tag{service("s"), cookie(strings.Repeat("c", x.n))}
		if x.uniq != "" {
			tags = append(tags, uniq(x.uniq))
		}
		sent(t, h.Take(pado(tags...)), disc(ac, own, api.Padr, 0, tags...))
		is(t, h, Chosen)
	}
}

func TestP804PadsUniq(t *testing.T) {
	for _, x := range uniqs() {
		for _, n := range []int{0, session} {
			h := made(t, "s", x.uniq, 1, 2)
			h.Start()
			h.Take(pado(service("s"), uniq(x.uniq)))
			is(t, h, Chosen)
			if !x.good {
				nothing(t, x.what, h, pads(n, x.tags...))
				continue
			}
			sent(t, h.Take(pads(n, x.tags...)))
			if n == 0 {
				is(t, h, Failed)
			} else {
				is(t, h, Live)
			}
		}
	}
}

// The Pads needs no service; what it says beside its uniq is not looked at.
func TestP804PadsOfAnyService(t *testing.T) {
	for _, tags := range [][]api.Tag{
		{uniq("u")}, {service("x"), uniq("u")}, {service("s"), {Type: api.TagNoServ}, uniq("u")}, {{Type: api.TagSystem, Value: "full"}, uniq("u")},
	} {
		h := in(t, Chosen)
		sent(t, h.Take(pads(session, tags...)))
		is(t, h, Live)
		h = in(t, Chosen)
		sent(t, h.Take(pads(0, tags...)))
		is(t, h, Failed)
	}
}

func TestP804PadsFromAnother(t *testing.T) {
	h := in(t, Chosen)
	for _, m := range []api.Mac{other, own, none, all, {2, 0, 0, 0, 1, 9}} {
		for _, n := range []int{0, session} {
			nothing(t, "from another", h, disc(own, m, api.Pads, n, service("s"), uniq("u")))
		}
	}
	sent(t, h.Take(pads(session, uniq("u"))))
	is(t, h, Live)
	nothing(t, "a second Pads", h, pads(session+1, uniq("u")))
	nothing(t, "a second Pads, refused", h, pads(0, uniq("u")))
}

// The wait goes on while what comes is nothing.
func TestP804NothingLeavesTheTicks(t *testing.T) {
	for _, state := range []int{Asked, Chosen} {
		h := in(t, state)
		sent(t, h.Tick())
		nothing(t, "a Pado of another", h, pado(service("x"), uniq("u")))
		nothing(t, "a Pads of another", h, disc(own, other, api.Pads, session, uniq("u")))
		if got := h.Tick(); len(got) != 1 {
			t.Errorf("%s: %x is sent", names[state], got)
		}
	}
}

func TestP804Padt(t *testing.T) {
	h := in(t, Live)
	for _, m := range []api.Mac{other, own, none, all} {
		nothing(t, "from another", h, disc(own, m, api.Padt, session))
	}
	for _, n := range []int{0, session - 1, session + 1, session + 256, 65535} {
		nothing(t, "of another session", h, padt(n))
	}
	sent(t, h.Take(disc(own, ac, api.Padt, session, service("x"), uniq("v"))))
	is(t, h, Idle)
	for range 10 {
		sent(t, h.Tick())
	}
	sent(t, h.Stop())
	sent(t, h.Start(), padi())
}
