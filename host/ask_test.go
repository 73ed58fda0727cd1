package host

import (
	"slices"
	"testing"

	"tollgate/api"
)

// P802 and P803.

func TestP802Start(t *testing.T) {
	for state, name := range names {
		h := in(t, state)
		if state == Idle || state == Failed {
			sent(t, h.Start(), padi())
			is(t, h, Asked)
			continue
		}
		if got := h.Start(); len(got) != 0 {
			t.Errorf("%s: Start sends %x", name, got)
		}
		is(t, h, state)
	}
}

// A Start that is nothing does not begin the wait anew.
func TestP802StartLeavesTheTicks(t *testing.T) {
	for _, state := range []int{Asked, Chosen} {
		h := in(t, state)
		sent(t, h.Tick())
		sent(t, h.Start())
		if got := h.Tick(); len(got) != 1 {
			t.Errorf("%s: %x is sent", names[state], got)
		}
	}
}

func TestP802Stop(t *testing.T) {
	for state, name := range names {
		h := in(t, state)
		got := h.Stop()
		if state == Live {
			sent(t, got, disc(ac, own, api.Padt, session))
		} else if len(got) != 0 {
			t.Errorf("%s: Stop sends %x", name, got)
		}
		is(t, h, Idle)
		sent(t, h.Stop())
		is(t, h, Idle)
		for range 10 {
			sent(t, h.Tick())
		}
		is(t, h, Idle)
		sent(t, h.Start(), padi())
		is(t, h, Asked)
	}
}

func TestP802Padi(t *testing.T) {
	for _, x := range []struct {
		service, uniq string
		want          []api.Tag
	}{
		{"", "", []api.Tag{service("")}},
		{"s", "", []api.Tag{service("s")}},
		{"", "u", []api.Tag{service(""), uniq("u")}},
		{"internet", "\x00\x01", []api.Tag{service("internet"), uniq("\x00\x01")}},
	} {
		h := made(t, x.service, x.uniq, 1, 1)
		want := disc(all, own, api.Padi, 0, x.want...)
		sent(t, h.Start(), want)
		sent(t, h.Tick(), want)
	}
}

func TestP802Padr(t *testing.T) {
	for _, x := range []struct {
		service, uniq string
		offered, want []api.Tag
	}{
		{"", "", []api.Tag{service("")}, []api.Tag{service("")}},
		{"", "", []api.Tag{service(""), uniq("any")}, []api.Tag{service("")}},
		{"", "", []api.Tag{service(""), cookie("c")}, []api.Tag{service(""), cookie("c")}},
		{"", "", []api.Tag{service(""), cookie("")}, []api.Tag{service(""), cookie("")}},
		{"s", "u", []api.Tag{uniq("u"), service("s")}, []api.Tag{service("s"), uniq("u")}},
		{"s", "u", []api.Tag{cookie("c"), uniq("u"), service("s")}, []api.Tag{service("s"), cookie("c"), uniq("u")}},
		{"s", "u", []api.Tag{service("s"), cookie("c"), cookie("d"), uniq("u")}, []api.Tag{service("s"), cookie("c"), uniq("u")}},
		{"s", "u", []api.Tag{service("s"), cookie(""), cookie("d"), uniq("u")}, []api.Tag{service("s"), cookie(""), uniq("u")}},
		{"s", "u", []api.Tag{service("r"), service("s"), service("s"), uniq("u"), uniq("v")}, []api.Tag{service("s"), uniq("u")}},
	} {
		h := made(t, x.service, x.uniq, 1, 1)
		h.Start()
		want := disc(ac, own, api.Padr, 0, x.want...)
		sent(t, h.Take(pado(x.offered...)), want)
		is(t, h, Chosen)
		sent(t, h.Tick(), want)
		is(t, h, Chosen)
	}
}

// The next search knows nothing of the last: neither its cookie nor its concentrator.
func TestP802PadrOfTheNextSearch(t *testing.T) {
	for _, state := range []int{Chosen, Live, Failed} {
		h := in(t, state)
		h.Stop()
		h.Start()
		is(t, h, Asked)
		offer := disc(own, other, api.Pado, 0, service("s"), uniq("u"))
		sent(t, h.Take(offer), disc(other, own, api.Padr, 0, service("s"), uniq("u")))
		has(t, h, Chosen, other, 0)
	}
}

func TestP803Example(t *testing.T) {
	h := made(t, "", "u", 1, 2)
	want := disc(all, own, api.Padi, 0, service(""), uniq("u"))
	sent(t, h.Start(), want)
	sent(t, h.Tick())
	sent(t, h.Tick(), want)
	for range 3 {
		sent(t, h.Tick())
		is(t, h, Asked)
	}
	sent(t, h.Tick())
	is(t, h, Failed)
}

func TestP803NothingInOtherStates(t *testing.T) {
	for _, state := range []int{Idle, Live, Failed} {
		h := in(t, state)
		for range 300 {
			sent(t, h.Tick())
			is(t, h, state)
		}
	}
}

// run lets ticks go by until a host is Failed; it tells at which of them something was sent, and the last one.
func run(t *testing.T, h *Host, want api.Ether) ([]int, int) {
	t.Helper()
	state, _, _ := h.State()
	var at []int
	for n := 1; ; n++ {
		got := h.Tick()
		if len(got) != 0 {
			sent(t, got, want)
			at = append(at, n)
		}
		if now, _, _ := h.State(); now != state {
			is(t, h, Failed)
			return at, n
		}
	}
}

// expected tells the same by the promise's words: of each sending the wait is twice that of the one ahead.
func expected(retry, wait int) ([]int, int) {
	var at []int
	tick := 0
	for range retry {
		tick += wait
		at = append(at, tick)
		wait *= 2
	}
	return at, tick + wait
}

func TestP803EachRetryAndWait(t *testing.T) {
	for retry := range 11 {
		for _, wait := range []int{1, 2, 3, 7, 64, 100} {
			at, end := expected(retry, wait)
			h := made(t, "s", "u", retry, wait)
			h.Start()
			if got, last := run(t, h, padi()); !slices.Equal(got, at) || last != end {
				t.Errorf("retry %d, wait %d: Padis at %v, Failed at %d, not %v, %d", retry, wait, got, last, at, end)
			}
			h.Start()
			h.Take(pado(service("s"), cookie("c"), uniq("u")))
			if got, last := run(t, h, padr()); !slices.Equal(got, at) || last != end {
				t.Errorf("retry %d, wait %d: Padrs at %v, Failed at %d, not %v, %d", retry, wait, got, last, at, end)
			}
		}
	}
}

// However long the Padi went on, the Padr begins anew, and so does the next Padi.
func TestP803BeginsAnew(t *testing.T) {
	const retry, wait = 3, 2
	at, end := expected(retry, wait)
	for ticks := range end {
		h := made(t, "s", "u", retry, wait)
		h.Start()
		for range ticks {
			h.Tick()
		}
		h.Take(pado(service("s"), cookie("c"), uniq("u")))
		for range ticks {
			h.Tick()
		}
		h.Stop()
		h.Start()
		if got, last := run(t, h, padi()); !slices.Equal(got, at) || last != end {
			t.Errorf("behind %d ticks: Padis at %v, Failed at %d", ticks, got, last)
		}
		h.Start()
		for range ticks {
			h.Tick()
		}
		h.Take(pado(service("s"), cookie("c"), uniq("u")))
		if got, last := run(t, h, padr()); !slices.Equal(got, at) || last != end {
			t.Errorf("behind %d ticks: Padrs at %v, Failed at %d", ticks, got, last)
		}
	}
}

// What is answered is the caller's.
func TestP803AnswersAreNew(t *testing.T) {
	h := made(t, "s", "u", 10, 1)
	spoil := func(l []api.Ether) {
		for i := range l {
			l[i] = api.Ether{}
		}
		_ = append(l, api.Ether{Type: 1})
	}
	spoil(h.Start())
	first := h.Tick()
	sent(t, first, padi())
	spoil(first)
	h.Tick()
	again := h.Tick()
	sent(t, again, padi())
	spoil(h.Take(pado(service("s"), cookie("c"), uniq("u"))))
	first = h.Tick()
	sent(t, first, padr())
	spoil(first)
	h.Tick()
	sent(t, h.Tick(), padr())
	sent(t, again, padi())
}
