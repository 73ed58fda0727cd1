package msg

import (
	"math"
	"slices"
	"strings"
	"testing"

	"tollgate/api"
)

// P1904.

// sizes tells how long known values must be, by the numbers that the document writes; -1: any length.
func sizes() map[int]int {
	m := map[int]int{3: 4, 15: 4, 19: 4, 24: 4, 5: 8, 13: 16, 39: 0}
	for _, kind := range []int{0, 2, 9, 10, 14, 29, 32} {
		m[kind] = 2
	}
	for _, kind := range []int{1, 7, 11, 26, 27, 28, 30, 31, 33, 34, 35, 36} {
		m[kind] = -1
	}
	return m
}

// good tells a value of a known type, as long as it must be.
func good(kind int) api.Avp {
	n := sizes()[kind]
	if n < 0 {
		n = 3
	}
	return api.Avp{Must: true, Type: kind, Value: some(n)}
}

// full tells a message of a kind with all that it needs.
func full(kind int) []api.Avp {
	l := []api.Avp{num(0, kind)}
	for _, need := range needed()[kind] {
		l = append(l, good(need))
	}
	return l
}

// hold holds an answer of Check.
func hold(t *testing.T, what string, l []api.Avp, want api.Errno) {
	t.Helper()
	if got := Check(of(l...)); got != want {
		t.Errorf("Check of %s (%.99v) = %d, not %d", what, l, got, want)
	}
}

// everyKind does something for each kind there is, with a full message.
func everyKind(do func(kind int, l []api.Avp)) {
	for kind := range needed() {
		do(kind, full(kind))
	}
}

func TestP1904NoValues(t *testing.T) {
	hold(t, "nil", nil, api.OK)
	hold(t, "none", []api.Avp{}, api.OK)
	if err := Check(api.Ctl{Tunnel: -1, Session: 65536, Ns: math.MinInt, Nr: math.MaxInt}); err != api.OK {
		t.Errorf("Check looks at numbers: %d", err)
	}
}

func TestP1904Kind(t *testing.T) {
	all := needed()
	for kind := range 65536 {
		_, known := all[kind]
		want := api.ErrMust
		if known && len(all[kind]) == 0 {
			want = api.OK
		}
		hold(t, "a kind alone", []api.Avp{num(0, kind)}, want)
		if known {
			want = api.OK
		}
		// All that any kind needs, so that nothing but the kind may be wrong.
		hold(t, "a kind and everything", []api.Avp{num(0, kind), good(2), good(3), good(7), good(9), good(1), good(14), good(15), good(24), good(19), good(34), good(35)}, want)
		if t.Failed() {
			t.Fatalf("of the kind %d", kind)
		}
	}
	for _, first := range []api.Avp{
		{Must: true, Vendor: 1, Value: "\x00\x06"},
		{Must: true, Hidden: true, Value: "\x00\x06"},
		{Must: true, Value: "\x06"},
		{Must: true, Value: ""},
		{Must: true, Value: "\x00\x00\x06"},
		{Type: 7, Value: "\x00\x06"},
		{Type: 99},
		{Vendor: 3, Type: 99},
	} {
		hold(t, "a first one that is no kind", []api.Avp{first}, api.ErrMust)
		hold(t, "a first one that is no kind, then a kind", []api.Avp{first, num(0, 6)}, api.ErrMust)
	}
	hold(t, "a kind that is not Must", []api.Avp{{Value: "\x00\x06"}}, api.OK)
}

// TestP1904Needs has each kind with all that it needs, in any turn, and with each one of them missing.
func TestP1904Needs(t *testing.T) {
	everyKind(func(kind int, l []api.Avp) {
		hold(t, "all", l, api.OK)
		hold(t, "Make", Make(kind, l[1:]...), api.OK)
		turned := slices.Clone(l)
		slices.Reverse(turned[1:])
		hold(t, "all, turned round", turned, api.OK)
		for i := 1; i < len(l); i++ {
			hold(t, "one missing", slices.Delete(slices.Clone(l), i, i+1), api.ErrMust)
			if len(l) > 2 {
				hold(t, "all but one missing", []api.Avp{l[0], l[i]}, api.ErrMust)
			}

			other := slices.Clone(l)
			other[i].Vendor = 9
			hold(t, "one of another Vendor, Must", other, api.ErrMust)
			other[i].Must = false
			hold(t, "one of another Vendor", other, api.ErrMust)
			hold(t, "one of another Vendor, and one of none", append(other, l[i]), api.OK)
			hold(t, "one of none, and one of another Vendor", slices.Insert(other, i, l[i]), api.OK)

			twice := append(slices.Clone(l), l[i])
			hold(t, "one twice", twice, api.OK)

			soft := slices.Clone(l)
			soft[i].Must, soft[i].Hidden = false, true
			hold(t, "one that is hidden and not Must", soft, api.OK)
		}
	})
}

// TestP1904More has each kind with a value more, of each type and at each place behind the first one.
func TestP1904More(t *testing.T) {
	known := sizes()
	everyKind(func(kind int, l []api.Avp) {
		for more := -3; more < 300; more++ {
			size, ok := known[more]
			a := api.Avp{Type: more, Value: some(max(size, 0))}
			want, mustWant := api.OK, api.OK
			switch {
			case !ok:
				mustWant = api.ErrMust
			case more == 0:
				want, mustWant = api.ErrForm, api.ErrForm
			}
			for at := 1; at <= len(l); at++ {
				hold(t, "one more", slices.Insert(slices.Clone(l), at, a), want)
				b := a
				b.Must = true
				hold(t, "one more, Must", slices.Insert(slices.Clone(l), at, b), mustWant)
				a.Vendor, b.Vendor = 9, 9
				hold(t, "one more, of a Vendor", slices.Insert(slices.Clone(l), at, a), api.OK)
				hold(t, "one more, of a Vendor, Must", slices.Insert(slices.Clone(l), at, b), api.ErrMust)
				a.Vendor = 0
			}
		}
	})
}

// TestP1904Length has known values of each length, Must or not, hidden or not.
func TestP1904Length(t *testing.T) {
	for kind, size := range sizes() {
		for n := range 40 {
			want := api.OK
			if size >= 0 && n != size || kind == 0 {
				want = api.ErrForm
			}
			for flags := range 4 {
				a := api.Avp{Must: flags&1 > 0, Hidden: flags&2 > 0, Type: kind, Value: some(n)}
				hold(t, "a length", []api.Avp{num(0, 6), a}, want)
				a.Vendor = 1 // then its length is not known
				if a.Must {
					hold(t, "a length, of a Vendor, Must", []api.Avp{num(0, 6), a}, api.ErrMust)
				} else {
					hold(t, "a length, of a Vendor", []api.Avp{num(0, 6), a}, api.OK)
				}
			}
		}
	}
	everyKind(func(kind int, l []api.Avp) {
		for i := 1; i < len(l); i++ {
			wrong := slices.Clone(l)
			wrong[i].Value += "x"
			want := api.ErrForm
			if sizes()[wrong[i].Type] < 0 {
				want = api.OK
			}
			hold(t, "one that it needs, too long", wrong, want)
			wrong[i].Value = ""
			hold(t, "one that it needs, empty", wrong, want)
		}
	})
	hold(t, "a long one", []api.Avp{num(0, 6), {Type: 7, Value: some(70000)}}, api.OK)
}

// TestP1904Unknown has Vendors and Types that are none.
func TestP1904Unknown(t *testing.T) {
	for _, v := range []int{math.MinInt, -65536, -1, 65536, 65536 + 7, 1<<32 + 7, math.MaxInt} {
		for _, a := range []api.Avp{{Type: v}, {Vendor: v}, {Vendor: v, Type: 7}, {Vendor: v, Type: v}} {
			hold(t, "unknown", []api.Avp{num(0, 6), a}, api.OK)
			a.Must = true
			hold(t, "unknown, Must", []api.Avp{num(0, 6), a}, api.ErrMust)
		}
	}
}

// TestP1904Second has a second value of AvpKind, whatever it is like.
func TestP1904Second(t *testing.T) {
	everyKind(func(kind int, l []api.Avp) {
		for _, a := range []api.Avp{num(0, kind), num(0, 6), {Value: "\x00\x06"}, {Hidden: true, Value: "\x00\x06"}, {Must: true}, {Value: "abc"}} {
			for at := 1; at <= len(l); at++ {
				hold(t, "a second kind", slices.Insert(slices.Clone(l), at, a), api.ErrForm)
			}
		}
		hold(t, "a second kind of another Vendor", append(slices.Clone(l), api.Avp{Vendor: 1, Value: "\x00\x06"}), api.OK)
		hold(t, "many second kinds", append(slices.Clone(l), num(0, 6), num(0, 6), num(0, 6)), api.ErrForm)
	})
}

// TestP1904Order has messages in which more than one thing is wrong.
func TestP1904Order(t *testing.T) {
	unknown := api.Avp{Must: true, Type: 99}
	foreign := api.Avp{Must: true, Vendor: 3, Type: 7, Value: "x"}
	wrong := num(15, 5)
	second := num(0, 6)
	for _, x := range []struct {
		what string
		l    []api.Avp
		want api.Errno
	}{
		{"no kind, then a wrong length", []api.Avp{{Type: 7}, wrong}, api.ErrMust},
		{"no such kind, then a wrong length", []api.Avp{num(0, 5), wrong}, api.ErrMust},
		{"no such kind, then a second one", []api.Avp{num(0, 13), second}, api.ErrMust},
		{"unknown, then a wrong length", []api.Avp{num(0, 6), unknown, wrong}, api.ErrMust},
		{"a wrong length, then unknown", []api.Avp{num(0, 6), wrong, unknown}, api.ErrForm},
		{"of a Vendor, then a second kind", []api.Avp{num(0, 6), foreign, second}, api.ErrMust},
		{"a second kind, then of a Vendor", []api.Avp{num(0, 6), second, foreign}, api.ErrForm},
		{"a wrong length of a Vendor", []api.Avp{num(0, 6), {Must: true, Vendor: 3, Type: 15, Value: "x"}}, api.ErrMust},
		{"a wrong length, and one is missing", []api.Avp{num(0, 10), good(14), wrong}, api.ErrForm},
		{"one is missing, and a wrong length behind", []api.Avp{num(0, 10), wrong}, api.ErrForm},
		{"a wrong length of one that it needs, and one is missing", []api.Avp{num(0, 4), num(9, 5), num(10, 5), {Type: 9, Value: "x"}}, api.ErrForm},
		{"a second kind, and one is missing", []api.Avp{num(0, 11), second}, api.ErrForm},
		{"unknown, not Must, then a wrong length", []api.Avp{num(0, 6), {Type: 99}, wrong}, api.ErrForm},
		{"of a Vendor, not Must, then a second kind", []api.Avp{num(0, 6), {Vendor: 3}, second}, api.ErrForm},
		{"unknown, not Must, and one is missing", []api.Avp{num(0, 11), {Type: 99}}, api.ErrMust},
		{"the first of two is good, the second one too long", []api.Avp{num(0, 11), good(14), {Type: 14, Value: "abc"}}, api.ErrForm},
	} {
		hold(t, x.what, x.l, x.want)
	}
}

// TestP1904Many has more values than a message may carry: none of that is Check's.
func TestP1904Many(t *testing.T) {
	hold(t, "many", Make(api.Icrp, slices.Repeat([]api.Avp{good(14)}, 500)...), api.OK)
	hold(t, "many, the last one wrong", Make(api.Icrp, append(slices.Repeat([]api.Avp{good(14)}, 500), num(15, 0))...), api.ErrForm)
	hold(t, "many, none of them needed", Make(api.Icrp, slices.Repeat([]api.Avp{{Type: 7, Value: strings.Repeat("x", 2000)}}, 500)...), api.ErrMust)
}

func TestP1904Example(t *testing.T) {
	hold(t, "Make(Icrp)", Make(api.Icrp), api.ErrMust)
	hold(t, "Make(Icrp, Num(14, 5, 2))", Make(api.Icrp, num(14, 5)), api.OK)
	hold(t, "Make(5)", Make(5), api.ErrMust)
}
