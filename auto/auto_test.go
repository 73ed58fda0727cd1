package auto

import (
	"math"
	"slices"
	"testing"

	"tollgate/api"
)

// P902 and P904, and what the tests of all promises share.

// made makes an automaton.
func made(t *testing.T, configure, terminate int) *Auto {
	t.Helper()
	a, err := New(configure, terminate)
	if a == nil || err != api.OK {
		t.Fatalf("New(%d, %d) = %v, %d", configure, terminate, a, err)
	}
	return a
}

// way tells events by which a new automaton comes to a state.
func way(state int) []int {
	return [][]int{
		api.Initial:  {},
		api.Starting: {api.Open},
		api.Closed:   {api.Up},
		api.Stopped:  {api.Up, api.Open, api.ToMinus},
		api.Closing:  {api.Up, api.Open, api.Close},
		api.Stopping: {api.Up, api.Open, api.RcrPlus, api.Rca, api.RxjMinus},
		api.ReqSent:  {api.Up, api.Open},
		api.AckRcvd:  {api.Up, api.Open, api.Rca},
		api.AckSent:  {api.Up, api.Open, api.RcrPlus},
		api.Opened:   {api.Up, api.Open, api.RcrPlus, api.Rca},
	}[state]
}

// waits tells by hand in which states it waits.
func waits(state int) bool {
	return [...]bool{api.Closing: true, api.Stopping: true, api.ReqSent: true, api.AckRcvd: true, api.AckSent: true, api.Opened: false}[state]
}

// in makes an automaton in a state.
func in(t *testing.T, state, configure, terminate int) *Auto {
	t.Helper()
	a := made(t, configure, terminate)
	for _, event := range way(state) {
		a.Do(event)
	}
	if got := a.State(); got != state {
		t.Fatalf("State() = %d, not %s", got, states[state])
	}
	return a
}

// holding makes an automaton in a state with a counter that no events may lead to.
func holding(t *testing.T, state, count int) *Auto {
	t.Helper()
	a := in(t, state, 17, 19)
	a.count = count
	return a
}

// is holds what an automaton tells against what it should.
func is(t *testing.T, what string, a *Auto, state, count int) {
	t.Helper()
	if s, n, w := a.State(), a.Count(), a.Waits(); s != state || n != count || w != waits(state) {
		t.Errorf("%s: %d, %d, %v, not %s, %d, %v", what, s, n, w, states[state], count, waits(state))
	}
}

// did holds actions against what they should be.
func did(t *testing.T, what string, got []int, want ...int) {
	t.Helper()
	if !slices.Equal(got, want) {
		t.Errorf("%s: %v, not %v", what, got, want)
	}
}

func TestP902New(t *testing.T) {
	for _, configure := range []int{math.MinInt, -1, 0, 1, 2, 10, 20, 21, 22, 257, 1 << 32, 1<<32 + 1, math.MaxInt} {
		for _, terminate := range []int{math.MinInt, -1, 0, 1, 2, 10, 20, 21, 22, 257, 1 << 32, 1<<32 + 1, math.MaxInt} {
			a, err := New(configure, terminate)
			if configure < 1 || configure > 20 || terminate < 1 || terminate > 20 {
				if a != nil || err != api.ErrArg {
					t.Errorf("New(%d, %d) = %v, %d", configure, terminate, a, err)
				}
				continue
			}
			if a == nil || err != api.OK {
				t.Fatalf("New(%d, %d) = %v, %d", configure, terminate, a, err)
			}
			is(t, "new", a, api.Initial, 0)
		}
	}
}

func TestP902EveryCountThatMayBe(t *testing.T) {
	for configure := 1; configure <= 20; configure++ {
		for terminate := 1; terminate <= 20; terminate++ {
			is(t, "asking", in(t, api.ReqSent, configure, terminate), api.ReqSent, configure-1)
			is(t, "ending", in(t, api.Closing, configure, terminate), api.Closing, terminate-1)
		}
	}
}

func TestP902Example(t *testing.T) {
	a := made(t, 2, 1)
	did(t, "Open", a.Do(api.Open), api.Tls)
	did(t, "Up", a.Do(api.Up), api.Irc, api.Scr)
	is(t, "begun", a, api.ReqSent, 1)
	did(t, "the first", a.Timeout(), api.Scr)
	did(t, "the second", a.Timeout(), api.Tlf)
	did(t, "the third", a.Timeout())
	is(t, "ended", a, api.Stopped, 0)
}

// Do is Next of the state: its actions are told, and the state is the next one.
func TestP902DoIsNext(t *testing.T) {
	for event, row := range read(t) {
		for state, want := range row {
			a := in(t, state, 5, 3)
			what := states[state] + ", " + events[event]
			did(t, what, a.Do(event), want.does...)
			if got := a.State(); got != want.next {
				t.Errorf("%s: State() = %d, not %d", what, got, want.next)
			}
		}
	}
}

func TestP902DoOfAnEventThatIsNone(t *testing.T) {
	for state := range states {
		a := holding(t, state, 4)
		for _, event := range far(len(events)) {
			did(t, states[state], a.Do(event))
		}
		is(t, states[state], a, state, 4)
	}
}

// The counter of an automaton of New(17, 19), by what is among the actions.
func TestP902Counter(t *testing.T) {
	for _, x := range []struct {
		what                string
		state, event        int
		before, next, after int
	}{
		{"Irc alone", api.ReqSent, api.Rca, 3, api.AckRcvd, 17},
		{"Irc alone, at 0", api.ReqSent, api.Rca, 0, api.AckRcvd, 17},
		{"Irc alone, at more", api.ReqSent, api.Rca, 20, api.AckRcvd, 17},
		{"Irc and Tlu", api.AckSent, api.Rca, 0, api.Opened, 17},
		{"Irc, Scr by Up", api.Starting, api.Up, 0, api.ReqSent, 16},
		{"Irc, Scr by Open", api.Closed, api.Open, 9, api.ReqSent, 16},
		{"Irc, Scr by Rcn", api.ReqSent, api.Rcn, 1, api.ReqSent, 16},
		{"Irc, Scr by Rcn, the ack being sent", api.AckSent, api.Rcn, 0, api.AckSent, 16},
		{"Irc, Scr, Sca", api.Stopped, api.RcrPlus, 5, api.AckSent, 16},
		{"Irc, Scr, Scn", api.Stopped, api.RcrMinus, 5, api.ReqSent, 16},
		{"Irc, Str by Close", api.ReqSent, api.Close, 5, api.Closing, 18},
		{"Irc, Str by Close, an ack being there", api.AckRcvd, api.Close, 0, api.Closing, 18},
		{"Irc, Str by Close, an ack being sent", api.AckSent, api.Close, 17, api.Closing, 18},
		{"Tld, Irc, Str by Close", api.Opened, api.Close, 17, api.Closing, 18},
		{"Tld, Irc, Str by RxjMinus", api.Opened, api.RxjMinus, 17, api.Stopping, 18},
		{"Zrc", api.Opened, api.Rtr, 17, api.Stopping, 0},
		{"Zrc at 0", api.Opened, api.Rtr, 0, api.Stopping, 0},
		{"Scr at 2", api.ReqSent, api.ToPlus, 2, api.ReqSent, 1},
		{"Scr at 1", api.ReqSent, api.ToPlus, 1, api.ReqSent, 0},
		{"Scr at 0", api.ReqSent, api.ToPlus, 0, api.ReqSent, 0},
		{"Scr of AckRcvd at 1", api.AckRcvd, api.Rcn, 1, api.ReqSent, 0},
		{"Scr of AckRcvd at 0", api.AckRcvd, api.Rcn, 0, api.ReqSent, 0},
		{"Scr of AckSent at 1", api.AckSent, api.ToPlus, 1, api.AckSent, 0},
		{"Scr of AckSent at 0", api.AckSent, api.ToPlus, 0, api.AckSent, 0},
		{"Tld, Scr at 17", api.Opened, api.Rta, 17, api.ReqSent, 16},
		{"Tld, Scr, Sca at 1", api.Opened, api.RcrPlus, 1, api.AckSent, 0},
		{"Tld, Scr, Scn at 0", api.Opened, api.RcrMinus, 0, api.ReqSent, 0},
		{"Str at 2", api.Closing, api.ToPlus, 2, api.Closing, 1},
		{"Str at 1", api.Closing, api.ToPlus, 1, api.Closing, 0},
		{"Str at 0", api.Closing, api.ToPlus, 0, api.Closing, 0},
		{"Str of Stopping at 1", api.Stopping, api.ToPlus, 1, api.Stopping, 0},
		{"Str of Stopping at 0", api.Stopping, api.ToPlus, 0, api.Stopping, 0},
		{"Sca", api.ReqSent, api.RcrPlus, 3, api.AckSent, 3},
		{"Scn", api.ReqSent, api.RcrMinus, 3, api.ReqSent, 3},
		{"Sca, Tlu", api.AckRcvd, api.RcrPlus, 3, api.Opened, 3},
		{"Sta", api.AckRcvd, api.Rtr, 3, api.ReqSent, 3},
		{"Scj", api.AckSent, api.Ruc, 3, api.AckSent, 3},
		{"Ser", api.Opened, api.Rxr, 3, api.Opened, 3},
		{"Tls", api.Stopped, api.Down, 3, api.Starting, 3},
		{"Tlf", api.Closing, api.Rta, 3, api.Closed, 3},
		{"Tld", api.Opened, api.Down, 3, api.Starting, 3},
		{"no action", api.AckRcvd, api.RxjPlus, 3, api.ReqSent, 3},
		{"no entry", api.Opened, api.Up, 3, api.Opened, 3},
	} {
		a := holding(t, x.state, x.before)
		a.Do(x.event)
		is(t, x.what, a, x.next, x.after)
	}
}

// The same by events alone, from the beginning on.
func TestP902CounterFromTheBeginning(t *testing.T) {
	a := made(t, 3, 2)
	for i, x := range []struct{ event, state, count int }{
		{api.Up, api.Closed, 0},
		{api.Open, api.ReqSent, 2},
		{api.ToPlus, api.ReqSent, 1},
		{api.ToPlus, api.ReqSent, 0},
		{api.ToPlus, api.ReqSent, 0},
		{api.Rcn, api.ReqSent, 2},
		{api.Rca, api.AckRcvd, 3},
		{api.RcrMinus, api.AckRcvd, 3},
		{api.RcrPlus, api.Opened, 3},
		{api.RcrPlus, api.AckSent, 2},
		{api.Rca, api.Opened, 3},
		{api.Close, api.Closing, 1},
		{api.ToPlus, api.Closing, 0},
		{api.ToPlus, api.Closing, 0},
		{api.Open, api.Stopping, 0},
		{api.Rta, api.Stopped, 0},
		{api.RcrPlus, api.AckSent, 2},
		{api.Rca, api.Opened, 3},
		{api.RxjMinus, api.Stopping, 1},
		{api.Down, api.Starting, 1},
		{api.Up, api.ReqSent, 2},
		{api.RcrPlus, api.AckSent, 2},
		{api.Rca, api.Opened, 3},
		{api.Rtr, api.Stopping, 0},
		{api.ToMinus, api.Stopped, 0},
	} {
		a.Do(x.event)
		is(t, events[x.event], a, x.state, x.count)
		if t.Failed() {
			t.Fatalf("step %d", i)
		}
	}
}

func TestP902Timeout(t *testing.T) {
	rows := read(t)
	for state, name := range states {
		for _, count := range []int{0, 1, 2, 16, 20} {
			a := holding(t, state, count)
			event, left := api.ToMinus, 0
			if count > 0 {
				event, left = api.ToPlus, count-1
			}
			want := rows[event][state]
			if !waits(state) {
				want, left = said{next: state}, count
			}
			did(t, name, a.Timeout(), want.does...)
			is(t, name, a, want.next, left)
		}
	}
}

func TestP902WaitsStateCount(t *testing.T) {
	for state, name := range states {
		for _, count := range []int{0, 1, 20} {
			a := holding(t, state, count)
			is(t, name, a, state, count)
			// To be asked changes nothing.
			is(t, name+" again", a, state, count)
		}
	}
}

func TestP902ListsAreGivenAway(t *testing.T) {
	for event, row := range read(t) {
		for state, want := range row {
			a, b := in(t, state, 5, 3), in(t, state, 5, 3)
			first := a.Do(event)
			count := a.Count()
			spoil(first)
			is(t, states[state]+", "+events[event], a, want.next, count)
			did(t, states[state]+", "+events[event], b.Do(event), want.does...)
			spoil(in(t, state, 5, 3).Timeout())
		}
	}
	TestP901Table(t)
}

// Automatons know nothing of each other.
func TestP902EachItsOwn(t *testing.T) {
	a, b := made(t, 2, 3), made(t, 5, 7)
	a.Do(api.Open)
	is(t, "the other", b, api.Initial, 0)
	a.Do(api.Up)
	b.Do(api.Up)
	is(t, "the one", a, api.ReqSent, 1)
	is(t, "the other", b, api.Closed, 0)
	b.Do(api.Open)
	a.Timeout()
	is(t, "the one", a, api.ReqSent, 0)
	is(t, "the other", b, api.ReqSent, 4)
}

func TestP904NilAndZero(t *testing.T) {
	for what, a := range map[string]*Auto{"nil": nil, "zero": {}} {
		all := far(len(events))
		for event := range events {
			all = append(all, event)
		}
		for _, event := range append(all, api.Open, api.Up, api.RcrPlus, api.Rca) {
			if l := a.Do(event); len(l) != 0 {
				t.Errorf("%s: Do(%d) = %v", what, event, l)
			}
			if l := a.Timeout(); len(l) != 0 {
				t.Errorf("%s: Timeout() = %v", what, l)
			}
			is(t, what, a, api.Initial, 0)
		}
	}
	if zero := (Auto{}); len(zero.Do(api.Open)) != 0 || zero != (Auto{}) {
		t.Errorf("a zero Auto is %v behind an event", zero)
	}
}
