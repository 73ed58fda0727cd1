package net

import (
	"math"
	"slices"
	"strconv"
	"testing"

	"tollgate/api"
)

// P403 and P404: cuts, age and counters.

func TestP403CutFromNowOn(t *testing.T) {
	w := New()
	p := Pair{1, 2}
	send(t, w, dg(1, 2, "ahead"))
	w.Cut(p, true)
	ways(t, w, dg(1, 2, "ahead"))
	send(t, w, dg(1, 2, "lost"), dg(2, 1, "back"), dg(1, 1, "to itself"), dg(1, 3, "aside"))
	ways(t, w, dg(1, 2, "ahead"), dg(2, 1, "back"), dg(1, 1, "to itself"), dg(1, 3, "aside"))
	counts(t, w, p, 2, 1)
	counts(t, w, Pair{2, 1}, 1, 0)
	ok(t, "Twice of what is on its way", w.Twice(0))
	if d, err := w.Deliver(0); d != dg(1, 2, "ahead") || err != api.OK {
		t.Errorf("Deliver(0) = %v, %d", d, err)
	}
	w.Cut(p, false)
	send(t, w, dg(1, 2, "again"))
	ways(t, w, dg(1, 2, "ahead"), dg(2, 1, "back"), dg(1, 1, "to itself"), dg(1, 3, "aside"), dg(1, 2, "again"))
	counts(t, w, p, 3, 1)
}

func TestP403CutTwiceIsCutOnce(t *testing.T) {
	w := New()
	p := Pair{-1, 0}
	w.Cut(p, false)
	send(t, w, dg(-1, 0, "a"))
	w.Cut(p, true)
	w.Cut(p, true)
	send(t, w, dg(-1, 0, "b"))
	w.Cut(p, false)
	send(t, w, dg(-1, 0, "c"))
	ways(t, w, dg(-1, 0, "a"), dg(-1, 0, "c"))
	counts(t, w, p, 3, 1)
}

func TestP403CutsOfSeveralPairs(t *testing.T) {
	w := New()
	w.Cut(Pair{1, 2}, true)
	w.Cut(Pair{math.MinInt, math.MaxInt}, true)
	w.Cut(Pair{1, 2}, false)
	send(t, w, dg(1, 2, "a"), dg(math.MinInt, math.MaxInt, "b"), dg(math.MaxInt, math.MinInt, "c"))
	ways(t, w, dg(1, 2, "a"), dg(math.MaxInt, math.MinInt, "c"))
	counts(t, w, Pair{math.MinInt, math.MaxInt}, 1, 1)
}

// pass sends so many of a pair that are gone at once.
func pass(t *testing.T, w *Net, p Pair, n int) {
	t.Helper()
	for range n {
		send(t, w, dg(p.From, p.To, "pass"))
		last := w.Len() - 1
		if d, _ := w.Peek(last); d.Data == "pass" {
			w.Deliver(last)
		}
	}
}

func TestP403AgeToTheSend(t *testing.T) {
	w := New()
	p := Pair{1, 2}
	send(t, w, dg(1, 2, "old"), dg(1, 2, "next"), dg(2, 1, "back"))
	// One of them is "next".
	pass(t, w, p, 19998)
	ways(t, w, dg(1, 2, "old"), dg(1, 2, "next"), dg(2, 1, "back"))
	counts(t, w, p, 20000, 0)
	send(t, w, dg(1, 2, "new"))
	ways(t, w, dg(1, 2, "next"), dg(2, 1, "back"), dg(1, 2, "new"))
	counts(t, w, p, 20001, 1)
	send(t, w, dg(1, 2, "newer"))
	ways(t, w, dg(2, 1, "back"), dg(1, 2, "new"), dg(1, 2, "newer"))
	counts(t, w, p, 20002, 2)
	counts(t, w, Pair{2, 1}, 1, 0)
}

func TestP403AgeIsOfThePairAlone(t *testing.T) {
	w := New()
	send(t, w, dg(1, 2, "a"))
	for _, p := range []Pair{{2, 1}, {1, 3}, {3, 2}, {1, 1}} {
		pass(t, w, p, 20001)
	}
	ways(t, w, dg(1, 2, "a"))
	counts(t, w, Pair{1, 2}, 1, 0)
}

func TestP403AgeOfACopyIsThatOfTheFirst(t *testing.T) {
	w := New()
	p := Pair{1, 2}
	send(t, w, dg(1, 2, "a"))
	pass(t, w, p, 10000)
	ok(t, "Twice", w.Twice(0))
	ok(t, "Spoil of a copy", w.Spoil(1, 0, 1))
	pass(t, w, p, 9998)
	ok(t, "Twice of a copy", w.Twice(1))
	w.Deliver(0)
	pass(t, w, p, 1)
	ways(t, w, dg(1, 2, "`"), dg(1, 2, "`"))
	pass(t, w, p, 1)
	ways(t, w)
	counts(t, w, p, 20001, 2)
}

func TestP403SendsThatAreLostMakeOlder(t *testing.T) {
	w := New()
	p := Pair{1, 2}
	send(t, w, dg(1, 2, "a"))
	w.Cut(p, true)
	pass(t, w, p, 19999)
	ways(t, w, dg(1, 2, "a"))
	counts(t, w, p, 20000, 19999)
	pass(t, w, p, 1)
	ways(t, w)
	counts(t, w, p, 20001, 20001)
}

func TestP403SendsThatAreRefusedDoNotMakeOlder(t *testing.T) {
	w := New()
	p := Pair{1, 2}
	send(t, w, dg(1, 2, "a"))
	pass(t, w, p, 19999)
	if err := w.Send(dg(1, 2, string(make([]byte, 1515)))); err != api.ErrLong {
		t.Errorf("Send = %d", err)
	}
	ways(t, w, dg(1, 2, "a"))
	counts(t, w, p, 20000, 0)
}

func TestP403OldOnesMakeRoom(t *testing.T) {
	w := New()
	p := Pair{1, 2}
	send(t, w, dg(1, 2, "old"))
	pass(t, w, p, 19999)
	for range 599 {
		send(t, w, dg(3, 4, ""))
	}
	send(t, w, dg(1, 2, "new"))
	if d, err := w.Peek(599); d != dg(1, 2, "new") || err != api.OK || w.Len() != 600 {
		t.Errorf("the last one is %v, %d of %d", d, err, w.Len())
	}
	counts(t, w, p, 20001, 1)
}

func TestP403CountersStay(t *testing.T) {
	w := New()
	p := Pair{1, 2}
	w.count(p, math.MaxInt-1, math.MaxInt-2)
	send(t, w, dg(1, 2, "a"))
	counts(t, w, p, math.MaxInt, math.MaxInt-2)
	for _, lost := range []int{math.MaxInt - 1, math.MaxInt, math.MaxInt} {
		send(t, w, dg(1, 2, "b"))
		ok(t, "Drop", w.Drop(1))
		counts(t, w, p, math.MaxInt, lost)
	}
	ways(t, w, dg(1, 2, "a"))
}

// plainGram and plainNet: the same promises by another hand. Each datagram counts what was sent behind it.
type plainGram struct {
	d      api.Datagram
	behind int
}

type plainNet struct {
	grams      []plainGram
	old        int // how many were lost by their age
	sent, lost map[Pair]int
	cut        map[Pair]bool
}

func (w *plainNet) send(d api.Datagram) {
	p := Pair{d.From, d.To}
	w.sent[p]++
	rest := w.grams[:0]
	for _, g := range w.grams {
		if g.d.From == p.From && g.d.To == p.To {
			g.behind++
		}
		if g.behind == 20000 {
			w.lost[p]++
			w.old++
			continue
		}
		rest = append(rest, g)
	}
	w.grams = rest
	if w.cut[p] || len(w.grams) == 600 {
		w.lost[p]++
		return
	}
	w.grams = append(w.grams, plainGram{d: d})
}

func (w *plainNet) deliver(i int) (api.Datagram, api.Errno) {
	if i < 0 || i >= len(w.grams) {
		return api.Datagram{}, api.ErrIndex
	}
	d := w.grams[i].d
	w.grams = slices.Delete(w.grams, i, i+1)
	return d, api.OK
}

func (w *plainNet) drop(i int) api.Errno {
	d, err := w.deliver(i)
	if err == api.OK {
		w.lost[Pair{d.From, d.To}]++
	}
	return err
}

func (w *plainNet) twice(i int) api.Errno {
	if i < 0 || i >= len(w.grams) {
		return api.ErrIndex
	}
	if len(w.grams) == 600 {
		return api.ErrFull
	}
	w.grams = slices.Insert(w.grams, i+1, w.grams[i])
	return api.OK
}

// deliverBoth delivers from both nets; what comes was sent, as its Data tells how many of its pair were sent ahead of it, and not too long ago.
func deliverBoth(t *testing.T, w *Net, plain *plainNet, i int) {
	t.Helper()
	d, err := w.Deliver(i)
	if want, wantErr := plain.deliver(i); d != want || err != wantErr {
		t.Fatalf("Deliver(%d) = %v, %d, not %v, %d", i, d, err, want, wantErr)
	}
	if err != api.OK {
		return
	}
	ahead, bad := strconv.Atoi(d.Data)
	sent := w.Sent(Pair{d.From, d.To})
	if bad != nil || ahead < 0 || ahead >= sent || sent-1-ahead >= 20000 {
		t.Fatalf("%v came when %d were sent", d, sent)
	}
}

// TestP404NothingComesThatWasNotSent lets a net go on for long, mostly near its limit, beside a plain one.
func TestP404NothingComesThatWasNotSent(t *testing.T) {
	w, plain := New(), &plainNet{sent: map[Pair]int{}, lost: map[Pair]int{}, cut: map[Pair]bool{}}
	pairs := []Pair{{1, 2}, {2, 1}, {1, 3}}
	seed := uint32(1)
	draw := func(n int) int {
		seed = seed*1664525 + 1013904223
		return int(seed>>8) % n
	}
	for range 100000 {
		// Mostly one pair, and mostly its newest ones, so that others grow old.
		p := pairs[max(draw(20)-17, 0)]
		i := draw(700) - 20
		switch k := draw(100); {
		case k < 60:
			d := dg(p.From, p.To, strconv.Itoa(w.Sent(p)))
			send(t, w, d)
			plain.send(d)
		case k < 75:
			deliverBoth(t, w, plain, w.Len()-1-draw(5))
		case k < 80:
			deliverBoth(t, w, plain, i)
		case k < 85:
			if got, want := w.Drop(i), plain.drop(i); got != want {
				t.Fatalf("Drop(%d) = %d, not %d", i, got, want)
			}
		case k < 95:
			if got, want := w.Twice(i), plain.twice(i); got != want {
				t.Fatalf("Twice(%d) = %d, not %d", i, got, want)
			}
		default:
			on := draw(4) == 0
			w.Cut(p, on)
			plain.cut[p] = on
		}
		counts(t, w, p, plain.sent[p], plain.lost[p])
		if w.Len() != len(plain.grams) || t.Failed() {
			t.Fatalf("%d are on their way, not %d", w.Len(), len(plain.grams))
		}
	}
	if plain.old < 100 {
		t.Errorf("only %d grew old: the run shows too little", plain.old)
	}
	var want []api.Datagram
	for _, g := range plain.grams {
		want = append(want, g.d)
	}
	ways(t, w, want...)
}
