package net

import "math"

// Pair is a way from a node to a node.
type Pair struct{ From, To int }

// tally is what was counted of a pair.
type tally struct{ sent, lost int }

// Cut cuts a pair.
func (w *Net) Cut(p Pair, on bool) {
	if w == nil {
		return
	}
	if !on {
		delete(w.cuts, p)
		return
	}
	// Made here and not by New: a zero net is a new one too.
	if w.cuts == nil {
		w.cuts = make(map[Pair]struct{})
	}
	w.cuts[p] = struct{}{}
}

// Sent tells how many were sent.
func (w *Net) Sent(p Pair) int {
	if w == nil {
		return 0
	}
	return w.tallies[p].sent
}

// Lost tells how many were lost.
func (w *Net) Lost(p Pair) int {
	if w == nil {
		return 0
	}
	return w.tallies[p].lost
}

// isCut tells whether a pair is cut.
func (w *Net) isCut(p Pair) bool {
	_, is := w.cuts[p]
	return is
}

// count counts more that were sent and lost of a pair.
func (w *Net) count(p Pair, sent, lost int) {
	if w.tallies == nil {
		w.tallies = make(map[Pair]tally)
	}
	t := w.tallies[p]
	w.tallies[p] = tally{sent: upTo(t.sent, sent), lost: upTo(t.lost, lost)}
}

// upTo tells n and more, or the greatest int, at which a counter stays.
func upTo(n, more int) int { return n + min(more, math.MaxInt-n) }
