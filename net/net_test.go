package net

import (
	"math"
	"slices"
	"strings"
	"testing"

	"tollgate/api"
)

// P401, P402 and P404, and of P405 what has to do with datagrams.

func dg(from, to int, data string) api.Datagram {
	return api.Datagram{From: from, To: to, Data: data}
}

// ok fails the test, if what was answered is an error.
func ok(t *testing.T, what string, err api.Errno) {
	t.Helper()
	if err != api.OK {
		t.Fatalf("%s = %d", what, err)
	}
}

// send sends datagrams that are taken.
func send(t *testing.T, w *Net, ds ...api.Datagram) {
	t.Helper()
	for _, d := range ds {
		ok(t, "Send", w.Send(d))
	}
}

// ways holds what is on its way against what should be, in its order.
func ways(t *testing.T, w *Net, want ...api.Datagram) {
	t.Helper()
	if w.Len() != len(want) {
		t.Fatalf("%d are on their way, not %d", w.Len(), len(want))
	}
	for i, d := range want {
		if got, err := w.Peek(i); got != d || err != api.OK {
			t.Errorf("Peek(%d) = %v, %d, not %v", i, got, err, d)
		}
	}
}

// counts holds the counters of a pair against what they should be.
func counts(t *testing.T, w *Net, p Pair, sent, lost int) {
	t.Helper()
	if w.Sent(p) != sent || w.Lost(p) != lost {
		t.Errorf("of %v %d were sent, %d lost, not %d, %d", p, w.Sent(p), w.Lost(p), sent, lost)
	}
}

// filled makes a net with as many on their way as there may be, from 7 to 8.
func filled(t *testing.T) *Net {
	t.Helper()
	w := New()
	for i := range 600 {
		send(t, w, dg(7, 8, strings.Repeat("f", i)))
	}
	if w.Len() != 600 {
		t.Fatalf("%d are on their way, not 600", w.Len())
	}
	counts(t, w, Pair{7, 8}, 600, 0)
	return w
}

func TestP401Example(t *testing.T) {
	w := New()
	send(t, w, dg(1, 2, "a"), dg(1, 2, "b"))
	ok(t, "Twice(0)", w.Twice(0))
	if d, err := w.Deliver(2); d != dg(1, 2, "b") || err != api.OK {
		t.Errorf("Deliver(2) = %v, %d", d, err)
	}
	ok(t, "Drop(0)", w.Drop(0))
	if d, err := w.Deliver(0); d != dg(1, 2, "a") || err != api.OK {
		t.Errorf("Deliver(0) = %v, %d", d, err)
	}
	ways(t, w)
	counts(t, w, Pair{1, 2}, 2, 1)
}

func TestP401SendStandsBehindAllOthers(t *testing.T) {
	w := New()
	ds := []api.Datagram{dg(1, 2, "a"), dg(2, 1, "b"), dg(1, 2, ""), dg(3, 3, "c"), {}, dg(1, 2, "a"), dg(math.MinInt, math.MaxInt, "d")}
	for i, d := range ds {
		send(t, w, d)
		ways(t, w, ds[:i+1]...)
	}
	counts(t, w, Pair{1, 2}, 3, 0)
	counts(t, w, Pair{2, 1}, 1, 0)
	counts(t, w, Pair{3, 3}, 1, 0)
	counts(t, w, Pair{}, 1, 0)
	counts(t, w, Pair{math.MinInt, math.MaxInt}, 1, 0)
	counts(t, w, Pair{1, 3}, 0, 0)
}

func TestP401SendOfEachLength(t *testing.T) {
	w := New()
	for _, n := range []int{0, 1, 1500, 1501, 1513, 1514} {
		ok(t, "Send", w.Send(dg(1, 2, strings.Repeat("x", n))))
	}
	counts(t, w, Pair{1, 2}, 6, 0)
	for _, n := range []int{1515, 1516, 3000, 70000} {
		if err := w.Send(dg(1, 2, strings.Repeat("x", n))); err != api.ErrLong {
			t.Errorf("Send of %d bytes = %d", n, err)
		}
	}
	if w.Len() != 6 {
		t.Errorf("%d are on their way, not 6", w.Len())
	}
	counts(t, w, Pair{1, 2}, 6, 0)
}

func TestP401SendTooLongIsNeitherSentNorLost(t *testing.T) {
	long := dg(1, 2, strings.Repeat("x", 1515))
	w := New()
	w.Cut(Pair{1, 2}, true)
	if err := w.Send(long); err != api.ErrLong {
		t.Errorf("Send to a cut pair = %d", err)
	}
	counts(t, w, Pair{1, 2}, 0, 0)
	w = filled(t)
	if err := w.Send(long); err != api.ErrLong {
		t.Errorf("Send to a full net = %d", err)
	}
	counts(t, w, Pair{1, 2}, 0, 0)
}

func TestP401SendToAFullNetIsLost(t *testing.T) {
	w := filled(t)
	send(t, w, dg(1, 2, "x"), dg(1, 2, "y"), dg(7, 8, "z"))
	if w.Len() != 600 {
		t.Fatalf("%d are on their way, not 600", w.Len())
	}
	counts(t, w, Pair{1, 2}, 2, 2)
	counts(t, w, Pair{7, 8}, 601, 1)
	if d, err := w.Peek(599); d != dg(7, 8, strings.Repeat("f", 599)) || err != api.OK {
		t.Errorf("the last one is %v, %d", d, err)
	}
	ok(t, "Drop(0)", w.Drop(0))
	send(t, w, dg(1, 2, "now"), dg(1, 2, "late"))
	if d, err := w.Peek(599); d != dg(1, 2, "now") || err != api.OK {
		t.Errorf("the last one is %v, %d", d, err)
	}
	counts(t, w, Pair{1, 2}, 4, 3)
}

func TestP401LossIsCountedOnce(t *testing.T) {
	w := filled(t)
	w.Cut(Pair{1, 2}, true)
	send(t, w, dg(1, 2, "cut, and no room"))
	counts(t, w, Pair{1, 2}, 1, 1)
}

func TestP401PeekLeavesIt(t *testing.T) {
	w := New()
	send(t, w, dg(1, 2, "a"), dg(3, 4, "b"))
	for range 3 {
		ways(t, w, dg(1, 2, "a"), dg(3, 4, "b"))
	}
	counts(t, w, Pair{1, 2}, 1, 0)
}

func TestP401DeliverFromEachPlace(t *testing.T) {
	ds := []api.Datagram{dg(1, 2, "a"), dg(1, 2, "b"), dg(2, 1, "c"), dg(1, 2, "d")}
	for i := range ds {
		w := New()
		send(t, w, ds...)
		if d, err := w.Deliver(i); d != ds[i] || err != api.OK {
			t.Errorf("Deliver(%d) = %v, %d", i, d, err)
		}
		ways(t, w, slices.Delete(slices.Clone(ds), i, i+1)...)
		counts(t, w, Pair{1, 2}, 3, 0)
		counts(t, w, Pair{2, 1}, 1, 0)
	}
}

func TestP401DropFromEachPlace(t *testing.T) {
	ds := []api.Datagram{dg(1, 2, "a"), dg(1, 2, "b"), dg(2, 1, "c"), dg(1, 2, "d")}
	for i, d := range ds {
		w := New()
		send(t, w, ds...)
		ok(t, "Drop", w.Drop(i))
		ways(t, w, slices.Delete(slices.Clone(ds), i, i+1)...)
		lost := Pair{d.From, d.To}
		counts(t, w, lost, w.Sent(lost), 1)
		counts(t, w, Pair{lost.To, lost.From}, 4-w.Sent(lost), 0)
	}
}

func TestP401TwiceStandsRightBehind(t *testing.T) {
	ds := []api.Datagram{dg(1, 2, "a"), dg(1, 2, "b"), dg(2, 1, "c")}
	for i := range ds {
		w := New()
		send(t, w, ds...)
		ok(t, "Twice", w.Twice(i))
		ways(t, w, slices.Insert(slices.Clone(ds), i+1, ds[i])...)
		counts(t, w, Pair{1, 2}, 2, 0)
		counts(t, w, Pair{2, 1}, 1, 0)
	}
	w := New()
	send(t, w, ds...)
	ok(t, "Twice of the last one", w.Twice(2))
	send(t, w, dg(9, 9, "z"))
	ok(t, "Twice of a copy", w.Twice(3))
	ways(t, w, ds[0], ds[1], ds[2], ds[2], ds[2], dg(9, 9, "z"))
}

func TestP401DroppedCopyIsLostToo(t *testing.T) {
	w := New()
	send(t, w, dg(1, 2, "a"))
	ok(t, "Twice", w.Twice(0))
	ok(t, "Drop", w.Drop(0))
	ok(t, "Drop", w.Drop(0))
	counts(t, w, Pair{1, 2}, 1, 2)
}

func TestP401TwiceOfAFullNet(t *testing.T) {
	w := filled(t)
	for _, i := range []int{0, 300, 599} {
		if err := w.Twice(i); err != api.ErrFull {
			t.Errorf("Twice(%d) = %d", i, err)
		}
	}
	for _, i := range []int{-1, 600, math.MinInt, math.MaxInt} {
		if err := w.Twice(i); err != api.ErrIndex {
			t.Errorf("Twice(%d) = %d", i, err)
		}
	}
	for i := range 600 {
		if d, err := w.Peek(i); len(d.Data) != i || err != api.OK {
			t.Fatalf("Peek(%d) has %d bytes, %d", i, len(d.Data), err)
		}
	}
	counts(t, w, Pair{7, 8}, 600, 0)
	w.Deliver(0)
	ok(t, "Twice with room for one", w.Twice(598))
	if err := w.Twice(598); err != api.ErrFull || w.Len() != 600 {
		t.Errorf("Twice without room = %d, %d are on their way", err, w.Len())
	}
}

func TestP401NoneAtThatPlace(t *testing.T) {
	w := New()
	send(t, w, dg(1, 2, "a"), dg(1, 2, "b"))
	for _, i := range []int{2, 3, -1, math.MinInt, math.MaxInt, 1 << 32} {
		if d, err := w.Peek(i); d != (api.Datagram{}) || err != api.ErrIndex {
			t.Errorf("Peek(%d) = %v, %d", i, d, err)
		}
		if d, err := w.Deliver(i); d != (api.Datagram{}) || err != api.ErrIndex {
			t.Errorf("Deliver(%d) = %v, %d", i, d, err)
		}
		if err := w.Drop(i); err != api.ErrIndex {
			t.Errorf("Drop(%d) = %d", i, err)
		}
		if err := w.Twice(i); err != api.ErrIndex {
			t.Errorf("Twice(%d) = %d", i, err)
		}
	}
	ways(t, w, dg(1, 2, "a"), dg(1, 2, "b"))
	counts(t, w, Pair{1, 2}, 2, 0)
}

func TestP402SpoilAtEachPlace(t *testing.T) {
	for _, c := range []struct {
		at, by int
		want   string
	}{
		{0, 1, "`bc"},
		{1, 1, "acc"},
		{2, 255, "ab\x9c"},
		{3, 128, "\xe1bc"},
		{4, 1, "acc"},
		{-1, 1, "abb"},
		{-2, 1, "acc"},
		{-3, 1, "`bc"},
		{-4, 1, "abb"},
		{math.MaxInt, 1, "acc"},
		{math.MinInt, 1, "acc"},
	} {
		w := New()
		send(t, w, dg(2, 1, "xyz"), dg(1, 2, "abc"), dg(1, 2, "abc"))
		ok(t, "Spoil", w.Spoil(1, c.at, c.by))
		if d, _ := w.Peek(1); d != dg(1, 2, c.want) {
			t.Errorf("Spoil at %d by %d: %q, not %q", c.at, c.by, d.Data, c.want)
		}
		ok(t, "Spoil", w.Spoil(1, c.at, c.by))
		ways(t, w, dg(2, 1, "xyz"), dg(1, 2, "abc"), dg(1, 2, "abc"))
		counts(t, w, Pair{1, 2}, 2, 0)
	}
}

func TestP402SpoilByEachByte(t *testing.T) {
	for by := 1; by <= 255; by++ {
		w := New()
		send(t, w, dg(1, 2, "\x55"))
		ok(t, "Spoil", w.Spoil(0, 0, by))
		ways(t, w, dg(1, 2, string([]byte{0x55 ^ byte(by)})))
	}
}

func TestP402SpoilIsOfOneAlone(t *testing.T) {
	w := New()
	d := dg(1, 2, "abc")
	send(t, w, d, d)
	ok(t, "Twice", w.Twice(0))
	ok(t, "Spoil of what was copied", w.Spoil(0, 0, 1))
	ok(t, "Spoil of the copy", w.Spoil(1, 2, 1))
	ways(t, w, dg(1, 2, "`bc"), dg(1, 2, "abb"), d)
	ok(t, "Twice of a spoiled one", w.Twice(0))
	ways(t, w, dg(1, 2, "`bc"), dg(1, 2, "`bc"), dg(1, 2, "abb"), d)
	if d != dg(1, 2, "abc") {
		t.Errorf("what was handed in is now %v", d)
	}
}

func TestP402SpoilRefused(t *testing.T) {
	w := New()
	send(t, w, dg(1, 2, "abc"), dg(1, 2, ""))
	for _, c := range []struct {
		i, at, by int
		want      api.Errno
	}{
		{2, 0, 1, api.ErrIndex},
		{-1, 0, 1, api.ErrIndex},
		{math.MinInt, 0, 1, api.ErrIndex},
		{math.MaxInt, 0, 1, api.ErrIndex},
		{1, 0, 1, api.ErrIndex},
		{1, -1, 255, api.ErrIndex},
		{2, 0, 0, api.ErrIndex},
		{1, 0, 256, api.ErrIndex},
		{0, 0, 0, api.ErrArg},
		{0, 0, -1, api.ErrArg},
		{0, 1, 256, api.ErrArg},
		{0, 1, 257, api.ErrArg},
		{0, 1, math.MinInt, api.ErrArg},
		{0, 1, math.MaxInt, api.ErrArg},
	} {
		if err := w.Spoil(c.i, c.at, c.by); err != c.want {
			t.Errorf("Spoil(%d, %d, %d) = %d, not %d", c.i, c.at, c.by, err, c.want)
		}
	}
	ways(t, w, dg(1, 2, "abc"), dg(1, 2, ""))
}

func TestP405ZeroNetIsNew(t *testing.T) {
	var w, twin Net
	ways(t, &w)
	counts(t, &w, Pair{1, 2}, 0, 0)
	if d, err := w.Deliver(0); d != (api.Datagram{}) || err != api.ErrIndex {
		t.Errorf("Deliver(0) = %v, %d", d, err)
	}
	w.Cut(Pair{1, 2}, false)
	send(t, &w, dg(1, 2, "a"))
	ok(t, "Twice", w.Twice(0))
	ok(t, "Drop", w.Drop(1))
	ways(t, &w, dg(1, 2, "a"))
	counts(t, &w, Pair{1, 2}, 1, 1)
	twin.Cut(Pair{1, 2}, true)
	send(t, &twin, dg(1, 2, "a"))
	ways(t, &twin)
	counts(t, &twin, Pair{1, 2}, 1, 1)
}

func TestP405NetsAreTheirOwn(t *testing.T) {
	a, b := New(), New()
	send(t, a, dg(1, 2, "a"))
	a.Cut(Pair{3, 4}, true)
	ways(t, b)
	send(t, b, dg(3, 4, "b"))
	ways(t, b, dg(3, 4, "b"))
	counts(t, b, Pair{1, 2}, 0, 0)
	counts(t, b, Pair{3, 4}, 1, 0)
}

func TestP405OfANilNetNothingHappens(t *testing.T) {
	var w *Net
	w.Cut(Pair{1, 2}, true)
	w.Cut(Pair{1, 2}, false)
	for _, n := range []int{0, 1515} {
		if err := w.Send(dg(1, 2, strings.Repeat("x", n))); err != api.ErrArg {
			t.Errorf("Send of %d bytes = %d", n, err)
		}
	}
	for _, i := range []int{0, -1, 5} {
		if d, err := w.Peek(i); d != (api.Datagram{}) || err != api.ErrArg {
			t.Errorf("Peek(%d) = %v, %d", i, d, err)
		}
		if d, err := w.Deliver(i); d != (api.Datagram{}) || err != api.ErrArg {
			t.Errorf("Deliver(%d) = %v, %d", i, d, err)
		}
		if drop, twice, spoil := w.Drop(i), w.Twice(i), w.Spoil(i, 0, 1); drop != api.ErrArg || twice != api.ErrArg || spoil != api.ErrArg {
			t.Errorf("Drop, Twice, Spoil of %d = %d, %d, %d", i, drop, twice, spoil)
		}
	}
	if w.Len() != 0 {
		t.Errorf("%d are on their way", w.Len())
	}
	counts(t, w, Pair{1, 2}, 0, 0)
}
