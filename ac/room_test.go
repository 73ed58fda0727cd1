package ac

import (
	"fmt"
	"math/rand/v2"
	"slices"
	"testing"

	"tollgate/api"
)

// P705: what holds of the sessions, whatever is asked; by a plain model of a concentrator that goes by lists.

type model struct {
	most, last int
	list       []Session
	gone       []Id
}

func (w *model) has(number int) bool {
	return slices.ContainsFunc(w.list, func(s Session) bool { return s.Session == number })
}

func (w *model) at(id Id) int {
	return slices.IndexFunc(w.list, func(s Session) bool { return s.Id == id })
}

// ask tells the session that a card gets for a uniq, 0 without room.
func (w *model) ask(m api.Mac, u string) int {
	each := 0
	for _, s := range w.list {
		if s.Mac == m {
			each++
			if s.Uniq == u && !s.Used {
				return s.Session
			}
		}
	}
	if len(w.list) == w.most || each == 2 {
		return 0
	}
	for ok := true; ok; ok = w.has(w.last) {
		w.last++
		if w.last == 65536 {
			w.last = 1
		}
	}
	w.list = append(w.list, Session{Id: Id{m, w.last}, Uniq: u})
	return w.last
}

func (w *model) end(id Id) bool {
	i := w.at(id)
	if i < 0 {
		return false
	}
	w.list = slices.Delete(w.list, i, i+1)
	w.gone = append(w.gone, id)
	return true
}

func (w *model) sorted() []Session {
	return slices.SortedFunc(slices.Values(w.list), func(a, b Session) int { return a.Session - b.Session })
}

// soundness tells what is wrong with some sessions.
func soundness(l []Session, most int) string {
	numbers, cards := map[int]int{}, map[api.Mac]int{}
	for _, s := range l {
		numbers[s.Session]++
		cards[s.Mac]++
		if s.Session < 1 || s.Session > 65535 || numbers[s.Session] > 1 {
			return fmt.Sprint("the number ", s.Session)
		}
		if cards[s.Mac] > 2 {
			return fmt.Sprint("too many of ", s.Mac)
		}
	}
	if len(l) > most {
		return fmt.Sprint(len(l), " sessions")
	}
	return ""
}

// random does some step to both, and holds what they answer against each other.
func random(t *testing.T, r *rand.Rand, c *Conc, w *model, cards int) {
	t.Helper()
	m := card(r.IntN(cards))
	id := Id{m, w.last - r.IntN(8)}
	if len(w.list) > 0 && r.IntN(2) == 0 {
		id = w.list[r.IntN(len(w.list))].Id
	}
	if r.IntN(8) == 0 {
		id.Mac = m
	}
	if id.Session < 0 {
		id.Session = 0
	}
	switch r.IntN(8) {
	default:
		u := string(rune('a' + r.IntN(3)))
		if number := w.ask(m, u); number != 0 {
			ask(t, c, m, u, number)
		} else {
			refused(t, c, m, u)
		}
	case 0, 1:
		got, b, ok := c.Data(talk(own, id.Mac, id.Session, "d"))
		if i := w.at(id); i >= 0 {
			w.list[i].Used = true
			if got != id || b != "d" || !ok {
				t.Errorf("Data of %v = %v, %q, %v", id, got, b, ok)
			}
		} else if got != (Id{}) || b != "" || ok {
			t.Errorf("Data of %v, which is none, = %v, %q, %v", id, got, b, ok)
		}
	case 2:
		sent(t, c.Take(disc(own, id.Mac, api.Padt, id.Session), 0))
		w.end(id)
	case 3:
		if w.end(id) {
			closed(t, c, id)
		} else if got, err := c.Close(id); len(got) != 0 || err != api.ErrIndex {
			t.Errorf("Close(%v) = %x, %d", id, got, err)
		}
	}
}

func TestP705AnySteps(t *testing.T) {
	r := rand.New(rand.NewPCG(7, 5))
	for _, x := range []struct{ most, cards, start int }{
		{1, 2, 0}, {2, 3, 0}, {3, 10, 65500}, {10, 6, 65400}, {60, 20, 65000}, {60, 80, 0}, {60, 80, 65500}, {60, 25, 65534},
	} {
		c := conc(t, x.most)
		spin(t, c, x.start)
		w := &model{most: x.most, last: x.start}
		for range 3000 {
			random(t, r, c, w, x.cards)
			live(t, c, w.sorted()...)
			if wrong := soundness(c.Live(), x.most); wrong != "" {
				t.Fatalf("most %d: %s", x.most, wrong)
			}
			if r.IntN(5) == 0 {
				gone(t, c, w.gone...)
				w.gone = nil
			}
			if t.Failed() {
				t.FailNow()
			}
		}
	}
}

// Everybody asks for as much as it can; nothing is used or closed.
func TestP705NeverMore(t *testing.T) {
	for _, most := range []int{1, 2, 3, 60} {
		c := conc(t, most)
		for i := range 400 {
			c.Take(padr(card(i%70), "", 0, uniq(fmt.Sprint(i))), 0)
			if wrong := soundness(c.Live(), most); wrong != "" {
				t.Fatalf("most %d: %s", most, wrong)
			}
		}
		if got := len(c.Live()); got != most {
			t.Errorf("%d sessions, not %d", got, most)
		}
	}
}

// Concentrators know nothing of each other.
func TestP705EachHasItsOwn(t *testing.T) {
	a, b := conc(t, 2), conc(t, 2)
	one := ask(t, a, card(1), "u", 1)
	use(t, a, one)
	live(t, b)
	ask(t, b, card(1), "v", 1)
	closed(t, a, one)
	gone(t, b)
	live(t, b, Session{one, "v", false})
}

// Whatever bytes come: no panic, and what holds goes on holding.
func TestP705AnyBytes(t *testing.T) {
	r := rand.New(rand.NewPCG(7, 6))
	c := conc(t, 3, "x")
	for range 20000 {
		m := card(r.IntN(3))
		f := padr(m, "", 0, uniq("u"))
		switch r.IntN(4) {
		case 0:
			f = disc(all, m, api.Padi, 0, service("x"), uniq("u"))
		case 1:
			f = disc(own, m, api.Padt, r.IntN(9))
		case 2:
			f = talk(own, m, r.IntN(9), "data")
		}
		b := []byte(f.Data)
		for range r.IntN(3) {
			b[r.IntN(len(b))] ^= byte(r.IntN(256))
		}
		f.Data = string(b[:len(b)-r.IntN(2)])
		c.Take(f, r.IntN(3))
		c.Data(f)
		if wrong := soundness(c.Live(), 3); wrong != "" {
			t.Fatal(wrong)
		}
	}
}
