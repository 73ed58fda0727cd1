package ctl

import (
	"math"
	"testing"

	"tollgate/api"
)

// P2006 and P2008: what can be asked, also of none.

// All that is told, behind each step of some way.
func TestP2006Told(t *testing.T) {
	c := made(t, 3, 4, 1, 2, 65534)
	for _, x := range []struct {
		what string
		do   func()
		want look
	}{
		{"New", func() {}, look{false, 0, 0, 65534, 65534, 1}},
		{"Send", func() { given(t, c, 0, 4) }, look{false, 4, 0, 65534, 65534, 1}},
		{"Send to a full one", func() { c.Send("x") }, look{false, 4, 0, 65534, 65534, 1}},
		{"Out", func() { c.Out() }, look{false, 3, 1, 65535, 65534, 1}},
		{"a Body", func() { c.Take(it(65534, 65534, "x")) }, look{false, 3, 1, 65535, 65535, 1}},
		{"another one, with an ack", func() { c.Take(it(65535, 65535, "y")) }, look{false, 3, 0, 65535, 0, 2}},
		{"a late one", func() { c.Take(it(65535, 65535, "y")) }, look{false, 3, 0, 65535, 0, 2}},
		{"Out", func() { c.Out() }, look{false, 1, 2, 1, 0, 2}},
		{"Window", func() { c.Window(1) }, look{false, 1, 2, 1, 0, 1}},
		{"Out", func() { c.Out() }, look{false, 1, 2, 1, 0, 1}},
		{"an ack", func() { c.Take(it(0, 0, "")) }, look{false, 1, 1, 1, 0, 1}},
		{"Out", func() { c.Out() }, look{false, 1, 1, 1, 0, 1}},
		{"Window", func() { c.Window(2) }, look{false, 1, 1, 1, 0, 1}},
		{"an ack", func() { c.Take(it(0, 1, "")) }, look{false, 1, 0, 1, 0, 2}},
		{"Out", func() { c.Out() }, look{false, 0, 1, 2, 0, 2}},
		{"a tick", func() { c.Tick() }, look{false, 0, 1, 2, 0, 2}},
		{"a wait", func() { c.Tick() }, look{false, 0, 1, 2, 0, 1}},
		{"Out", func() { c.Out() }, look{false, 0, 1, 2, 0, 1}},
		{"three ticks", func() { ticks(c, 3) }, look{false, 0, 1, 2, 0, 1}},
		{"Send", func() { given(t, c, 5, 2) }, look{false, 2, 1, 2, 0, 1}},
		{"the last tick", func() { c.Tick() }, look{true, 2, 1, 2, 0, 1}},
		{"whatever comes", func() { c.Take(it(0, 2, "x")) }, look{true, 2, 1, 2, 0, 1}},
	} {
		x.do()
		for range 3 { // asking changes nothing
			is(t, x.what, c, x.want)
		}
	}
}

// none holds all that an end which is none answers.
func none(t *testing.T, c *Ctl) {
	t.Helper()
	for range 2 {
		for _, n := range []int{0, 1, 1500, 1501} {
			sends(t, "none", c, long(n), api.ErrState)
		}
		for _, n := range []int{-1, 0, 1, 5, 65535, 65536, math.MinInt, math.MaxInt} {
			takes(t, "none", c, it(0, n, "x"))
			takes(t, "none", c, it(n, 0, "x"))
			takes(t, "none", c, it(n, n, ""))
			if err := c.Window(n); err != api.ErrArg {
				t.Errorf("Window(%d) of none = %d", n, err)
			}
		}
		c.Tick()
		outs(t, "none", c)
		is(t, "none", c, look{dead: true})
	}
}

func TestP2008Nil(t *testing.T) { none(t, nil) }

func TestP2008Zero(t *testing.T) {
	none(t, new(Ctl))
	none(t, &Ctl{})
	var in struct{ c Ctl }
	none(t, &in.c)
	if in.c.Window(4); seen(&in.c) != (look{dead: true}) {
		t.Error("Window made something of none")
	}
}

// What New answers with an error is a nil Ctl, and is as one.
func TestP2008OfNew(t *testing.T) {
	c, _ := New(0, 10, 2, 5, 0)
	none(t, c)
}
