package host

import (
	"fmt"
	"math/rand/v2"
	"strings"
	"testing"

	conc "tollgate/ac"
	"tollgate/api"
	"tollgate/byhand"
)

// P806: what follows from the others; with a concentrator, and by a plain model of a host.

// desk makes a concentrator of the card ac.
func desk(t *testing.T, most int) *conc.Conc {
	t.Helper()
	c, err := conc.New(ac, "ac", []string{"s"}, "secret", most)
	if err != api.OK {
		t.Fatalf("New of a concentrator = %d", err)
	}
	return c
}

// meet takes frames to the concentrator and what it answers to the host, until nobody sends; it tells how many went.
func meet(h *Host, c *conc.Conc, l []api.Ether) int {
	n := 0
	for len(l) > 0 {
		n += len(l)
		var back []api.Ether
		for _, f := range l {
			back = append(back, c.Take(f, 10)...)
		}
		n += len(back)
		l = nil
		for _, f := range back {
			l = append(l, h.Take(f)...)
		}
	}
	return n
}

func TestP806FourFramesToLive(t *testing.T) {
	for _, what := range []string{"", "s"} {
		for _, mark := range []string{"", "u", strings.Repeat("u", 40)} {
			c := desk(t, 2)
			h := made(t, what, mark, 0, 1)
			if n := meet(h, c, h.Start()); n != 4 {
				t.Errorf("service %q, uniq %q: %d frames", what, mark, n)
			}
			has(t, h, Live, ac, 1)
			f, _ := h.Frame("up")
			id, data, ok := c.Data(f)
			if data != "up" || !ok {
				t.Errorf("the concentrator has %v, %q, %v", id, data, ok)
			}
			back, _ := c.Frame(id, "down")
			if got := dataOf(h, back); got != (of{"down", true}) {
				t.Errorf("the host has %v", got)
			}
			meet(h, c, h.Stop())
			if l := c.Live(); len(l) != 0 {
				t.Errorf("%v are left", l)
			}
			meet(h, c, h.Start())
			has(t, h, Live, ac, 2)
			end, _ := c.Close(conc.Id{Mac: own, Session: 2})
			meet(h, c, nil)
			for _, f := range end {
				sent(t, h.Take(f))
			}
			is(t, h, Idle)
		}
	}
}

func TestP806NoRoom(t *testing.T) {
	c := desk(t, 1)
	first := made(t, "s", "u", 0, 1)
	meet(first, c, first.Start())
	has(t, first, Live, ac, 1)
	h, err := New(other, "s", "u", 0, 1)
	if err != api.OK {
		t.Fatal(err)
	}
	meet(h, c, h.Start())
	is(t, h, Failed)
	meet(first, c, first.Stop())
	meet(h, c, h.Start())
	has(t, h, Live, ac, 2)
}

func TestP806AServiceThatIsNone(t *testing.T) {
	h := made(t, "none", "u", 0, 1)
	if n := meet(h, desk(t, 1), h.Start()); n != 1 {
		t.Errorf("%d frames", n)
	}
	is(t, h, Asked)
}

func TestP806NoAnswer(t *testing.T) {
	for retry := range 11 {
		for _, wait := range []int{1, 2, 99, 100} {
			h := made(t, "s", "u", retry, wait)
			count := len(h.Start())
			end := wait * (1<<(retry+1) - 1)
			for range end - 1 {
				count += len(h.Tick())
			}
			is(t, h, Asked)
			count += len(h.Tick())
			is(t, h, Failed)
			if count != retry+1 {
				t.Errorf("retry %d, wait %d: %d Padis", retry, wait, count)
			}
		}
	}
}

// model is a host that keeps a list of the ticks that are to come at which something is done.
type model struct {
	retry, wait    int
	state, session int
	conc           api.Mac
	say            []api.Ether
	left           []int // ticks to each sending anew, the last one to the end
}

func (w *model) asks(state int, conc api.Mac, f api.Ether) []api.Ether {
	*w = model{retry: w.retry, wait: w.wait, state: state, conc: conc, say: []api.Ether{f}}
	for k := range w.retry + 1 {
		wait := w.wait
		for range k {
			wait += wait
		}
		w.left = append(w.left, wait)
	}
	return w.say
}

func (w *model) rests(state int) {
	*w = model{retry: w.retry, wait: w.wait, state: state}
}

func (w *model) tick() []api.Ether {
	if len(w.left) == 0 {
		return nil
	}
	w.left[0]--
	if w.left[0] > 0 {
		return nil
	}
	w.left = w.left[1:]
	if len(w.left) == 0 {
		w.rests(Failed)
		return nil
	}
	return w.say
}

func (w *model) start() []api.Ether {
	if w.state != Idle && w.state != Failed {
		return nil
	}
	return w.asks(Asked, none, padi())
}

func (w *model) stop() []api.Ether {
	var out []api.Ether
	if w.state == Live {
		out = append(out, disc(w.conc, own, api.Padt, w.session))
	}
	w.rests(Idle)
	return out
}

// take is told in words what comes: from whom, of which code and session, and whether it is good beside.
func (w *model) take(src api.Mac, code, session int, good bool) []api.Ether {
	switch {
	case w.state == Asked && code == api.Pado && session == 0 && good:
		return w.asks(Chosen, src, disc(src, own, api.Padr, 0, service("s"), cookie("c"), uniq("u")))
	case w.state == Chosen && code == api.Pads && src == w.conc && good && session == 0:
		w.rests(Failed)
	case w.state == Chosen && code == api.Pads && src == w.conc && good:
		w.rests(Live)
		w.conc, w.session = src, session
	case w.state == Live && code == api.Padt && src == w.conc && session == w.session:
		w.rests(Idle)
	}
	return nil
}

// random does some step to both, and holds what they answer against each other.
func random(t *testing.T, r *rand.Rand, h *Host, w *model) {
	t.Helper()
	switch r.IntN(12) {
	case 0:
		sent(t, h.Start(), w.start()...)
	case 1:
		if r.IntN(4) == 0 {
			sent(t, h.Stop(), w.stop()...)
		}
	case 2, 3, 4, 5, 6, 7:
		sent(t, h.Tick(), w.tick()...)
	default:
		src := []api.Mac{ac, other}[r.IntN(2)]
		code := []int{api.Pado, api.Pads, api.Padt, api.Padi}[r.IntN(4)]
		n := r.IntN(3)
		mark := []string{"u", "u", "v"}[r.IntN(3)]
		f := disc(own, src, code, n, service("s"), cookie("c"), uniq(mark))
		sent(t, h.Take(f), w.take(src, code, n, mark == "u")...)
	}
	has(t, h, w.state, w.conc, w.session)
	src, n := []api.Mac{ac, other}[r.IntN(2)], r.IntN(3)
	want := of{}
	if w.state == Live && src == w.conc && n == w.session {
		want = of{"d", true}
	}
	if got := dataOf(h, talk(own, src, n, "d")); got != want {
		t.Errorf("Data of session %d = %v, not %v", n, got, want)
	}
}

func TestP806AnySteps(t *testing.T) {
	r := rand.New(rand.NewPCG(8, 6))
	for retry := range 4 {
		for _, wait := range []int{1, 2, 5} {
			h, w := made(t, "s", "u", retry, wait), &model{retry: retry, wait: wait}
			for range 5000 {
				random(t, r, h, w)
				if t.Failed() {
					t.Fatalf("retry %d, wait %d", retry, wait)
				}
			}
		}
	}
}

// Whatever bytes come: no panic, and only a state that there is, with what it has.
func TestP806AnyBytes(t *testing.T) {
	r := rand.New(rand.NewPCG(8, 7))
	h := made(t, "s", "u", 2, 3)
	seen := [5]int{}
	for range 50000 {
		f := []api.Ether{pado(service("s"), cookie("c"), uniq("u")), pads(r.IntN(3), uniq("u")), padt(r.IntN(3)), talk(own, ac, r.IntN(3), "data")}[r.IntN(4)]
		b := []byte(f.Data)
		for range r.IntN(3) {
			b[r.IntN(len(b))] ^= byte(r.IntN(256))
		}
		f.Data = string(b[:len(b)-r.IntN(2)])
		h.Take(f)
		h.Data(f)
		h.Tick()
		if r.IntN(4) == 0 {
			h.Start()
		}
		if wrong := soundness(h); wrong != "" {
			t.Fatal(wrong)
		}
		state, _, _ := h.State()
		seen[state]++
	}
	for state, n := range seen {
		if n == 0 {
			t.Errorf("it was never %s", names[state])
		}
	}
}

// soundness tells what is wrong with a host's state.
func soundness(h *Host) string {
	state, m, n := h.State()
	_, err := h.Frame("")
	if state < Idle || state > Failed || (m == ac) != (state == Chosen || state == Live) || m != ac && m != none || (n != 0) != (state == Live) || (err == api.OK) != (state == Live) {
		return fmt.Sprint("State() = ", state, m, n, ", Frame: ", err)
	}
	return ""
}

// Hosts know nothing of each other.
func TestP806EachItsOwn(t *testing.T) {
	a, b := in(t, Chosen), in(t, Idle)
	sent(t, b.Tick())
	is(t, b, Idle)
	b.Start()
	a.Take(pads(session, uniq("u")))
	is(t, a, Live)
	is(t, b, Asked)
	sent(t, b.Take(pado(byhand.Service("s"), cookie("c"), uniq("u"))), padr())
	is(t, a, Live)
}
