package auto

import (
	"math/rand/v2"
	"slices"
	"testing"

	"tollgate/api"
)

// P903: what follows from the others; at all that can be come to, and by a plain model.

// ends holds that Timeouts alone end the waiting, and behind just how many.
func ends(t *testing.T, a Auto) {
	t.Helper()
	begun, most := a, a.Count()+1
	for n := 0; a.Waits(); n++ {
		if n == most {
			t.Fatalf("%+v waits behind %d Timeouts", begun, n)
		}
		left := a.Count()
		a.Timeout()
		if a.Waits() != (left > 0) {
			t.Fatalf("%+v: Waits() = %v, behind a Timeout at %d", begun, a.Waits(), left)
		}
	}
	rest := a
	if l := a.Timeout(); len(l) != 0 || a != rest {
		t.Fatalf("%+v: Timeout() = %v, where it does not wait", rest, l)
	}
}

func TestP903TheWaitingEnds(t *testing.T) {
	for state, name := range states {
		for count := range 21 {
			a := holding(t, state, count)
			ends(t, *a)
			for n := range count + 1 {
				if a.Waits() != waits(state) {
					t.Errorf("%s at %d: Waits() = %v behind %d Timeouts", name, count, a.Waits(), n)
				}
				a.Timeout()
			}
			if a.Waits() {
				t.Errorf("%s at %d: it waits behind %d Timeouts", name, count, count+1)
			}
		}
	}
}

// Where it ends: what was closed is Closed, all else Stopped, and the layer below is told once.
func TestP903WhereTheWaitingEnds(t *testing.T) {
	for _, x := range []struct{ state, end int }{
		{api.Closing, api.Closed}, {api.Stopping, api.Stopped},
		{api.ReqSent, api.Stopped}, {api.AckRcvd, api.Stopped}, {api.AckSent, api.Stopped},
	} {
		for _, count := range []int{0, 1, 5, 20} {
			a := holding(t, x.state, count)
			var does []int
			for range count + 1 {
				does = append(does, a.Timeout()...)
			}
			is(t, states[x.state], a, x.end, 0)
			if n := slices.Index(does, api.Tlf); n != count || len(does) != count+1 {
				t.Errorf("%s at %d: %v", states[x.state], count, does)
			}
		}
	}
}

// openings holds that Tlu is told just when Opened is come to, Tld just when it is left.
func openings(t *testing.T, from, to int, does []int) {
	t.Helper()
	ups, downs := 0, 0
	for _, action := range does {
		switch action {
		case api.Tlu:
			ups++
		case api.Tld:
			downs++
		}
	}
	wantUps, wantDowns := 0, 0
	if from != api.Opened && to == api.Opened {
		wantUps = 1
	}
	if from == api.Opened && to != api.Opened {
		wantDowns = 1
	}
	if ups != wantUps || downs != wantDowns {
		t.Errorf("from %s to %s: %v", states[from], states[to], does)
	}
}

func TestP903UpAndDown(t *testing.T) {
	for state := range states {
		for event := range events {
			next, does := Next(state, event)
			openings(t, state, next, does)
			a := in(t, state, 2, 2)
			does = a.Do(event)
			openings(t, state, a.State(), does)
			a = in(t, state, 2, 2)
			does = a.Timeout()
			openings(t, state, a.State(), does)
		}
	}
}

// model is an automaton that goes by the page.
type model struct {
	rows                                [][]said
	configure, terminate, state, counts int
}

func (m *model) do(event int) []int {
	if event < 0 || event >= len(m.rows) {
		return nil
	}
	e := m.rows[event][m.state]
	m.state = e.next
	anew := m.configure
	for _, action := range e.does {
		if actions[action] == "str" {
			anew = m.terminate
		}
	}
	for _, action := range e.does {
		switch actions[action] {
		case "irc":
			m.counts = anew
		case "zrc":
			m.counts = 0
		case "scr", "str":
			if m.counts > 0 {
				m.counts--
			}
		}
	}
	return e.does
}

func (m *model) timeout() []int {
	if !waits(m.state) {
		return nil
	}
	if m.counts == 0 {
		return m.do(api.ToMinus)
	}
	return m.do(api.ToPlus)
}

// every goes to all that can be come to by events and Timeouts, and hands each step to look.
func every(t *testing.T, configure, terminate int, look func(from, to Auto, event int, does []int)) int {
	t.Helper()
	todo := []Auto{*made(t, configure, terminate)}
	seen := map[Auto]bool{todo[0]: true}
	for len(todo) > 0 {
		from := todo[0]
		todo = todo[1:]
		for event := -1; event <= len(events); event++ {
			to := from
			var does []int
			if event < 0 {
				does = to.Timeout()
			} else {
				does = to.Do(event)
			}
			look(from, to, event, does)
			if !seen[to] {
				seen[to] = true
				todo = append(todo, to)
			}
		}
	}
	return len(seen)
}

func TestP903AllThatCanBe(t *testing.T) {
	rows := read(t)
	for _, configure := range []int{1, 2, 3, 10, 20} {
		for _, terminate := range []int{1, 2, 5, 20} {
			n := every(t, configure, terminate, func(from, to Auto, event int, does []int) {
				m := model{rows, configure, terminate, from.State(), from.Count()}
				want := m.timeout
				if event >= 0 {
					want = func() []int { return m.do(event) }
				}
				did(t, states[from.State()], does, want()...)
				is(t, states[from.State()], &to, m.state, m.counts)
				openings(t, from.State(), to.State(), does)
				ends(t, to)
				if to.Count() < 0 || to.Count() > max(configure, terminate) {
					t.Errorf("the counter is %d", to.Count())
				}
				if t.Failed() {
					t.Fatalf("New(%d, %d): %+v, event %d", configure, terminate, from, event)
				}
			})
			if n < len(states) {
				t.Errorf("New(%d, %d): only %d were come to", configure, terminate, n)
			}
		}
	}
}

func TestP903AnySteps(t *testing.T) {
	rows := read(t)
	r := rand.New(rand.NewPCG(9, 3))
	seen := [10]int{}
	for range 200 {
		configure, terminate := 1+r.IntN(20), 1+r.IntN(20)
		a, m := made(t, configure, terminate), &model{rows: rows, configure: configure, terminate: terminate}
		up, downs := 0, 0
		for range 500 {
			var got, want []int
			if r.IntN(4) == 0 {
				got, want = a.Timeout(), m.timeout()
			} else {
				event := r.IntN(len(events)+2) - 1
				got, want = a.Do(event), m.do(event)
			}
			did(t, "some step", got, want...)
			is(t, "some step", a, m.state, m.counts)
			for _, action := range got {
				if action == api.Tlu {
					up++
				} else if action == api.Tld {
					downs++
				}
			}
			if open := up-downs == 1; open != (a.State() == api.Opened) || up-downs < 0 {
				t.Fatalf("%d times up, %d times down, in %s", up, downs, states[a.State()])
			}
			if t.Failed() {
				t.FailNow()
			}
			seen[a.State()]++
		}
	}
	for state, n := range seen {
		if n == 0 {
			t.Errorf("it was never %s", states[state])
		}
	}
}
