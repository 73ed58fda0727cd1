package ipcp

import (
	"math"
	"slices"
	"testing"

	"tollgate/api"
	"tollgate/neg"
	"tollgate/opts"
)

// What the tests of all promises share, and P1701's numbers.

const (
	nought = "\x00\x00\x00\x00"
	one    = "\x00\x00\x00\x01"
	top    = "\xff\xff\xff\xff"
	own    = "\x0a\x00\x00\x01"
	peer   = "\x0a\x14\x1e\x28" // no two of its bytes are alike
	first  = "\xc0\xa8\x07\x35"
	second = "\x51\x03\xfe\x80"
)

var states = []string{"Initial", "Starting", "Closed", "Stopped", "Closing", "Stopping", "ReqSent", "AckRcvd", "AckSent", "Opened"}

// edges are addresses at both ends, around the middle, and such of which each byte shows its place.
func edges() []string {
	return []string{nought, one, top, own, peer, first, second, "\xff\xff\xff\xfe", "\x7f\xff\xff\xff", "\x80\x00\x00\x00", "\x01\x02\x03\x04", "\x04\x03\x02\x01", "\x01\x00\x00\x00", "\x00\x01\x00\x00", "\x00\x00\x01\x00"}
}

// wrongLong are values that are no address, by their length.
func wrongLong() []string {
	return []string{"", "\x00", "\x01", "\x00\x00\x00", "\x0a\x14\x1e", "\xff\xff\xff", "\x00\x00\x00\x00\x00", peer + "\x00", "\x00" + peer, top + "\xff", peer + peer, nought + nought + nought}
}

// addr tells the address of four bytes.
func addr(s string) api.Addr { return api.Addr{s[0], s[1], s[2], s[3]} }

func opt(kind int, value string) api.Option { return api.Option{Type: kind, Value: value} }

// list tells options of some kinds and values in turn.
func list(l ...any) []api.Option {
	var out []api.Option
	for i := 0; i < len(l); i += 2 {
		out = append(out, opt(l[i].(int), l[i+1].(string)))
	}
	return out
}

func pk(code, id int, l ...api.Option) api.Packet {
	return api.Packet{Code: code, Id: id, Options: l}
}

func bare(code, id int, data string) api.Packet { return api.Packet{Code: code, Id: id, Data: data} }

// good holds that a negotiation was made.
func good(t *testing.T, n *neg.Neg, err api.Errno) *neg.Neg {
	t.Helper()
	if n == nil || err != api.OK {
		t.Fatalf("%v, %d, not a negotiation", n, err)
	}
	return n
}

// client makes a client that may try often.
func client(t *testing.T, dns bool) *neg.Neg {
	t.Helper()
	n, err := Client(20, 2, 0, 3, dns)
	return good(t, n, err)
}

// server makes a server that may try often.
func server(t *testing.T, own, peer, dns1, dns2 string) *neg.Neg {
	t.Helper()
	n, err := Server(addr(own), addr(peer), addr(dns1), addr(dns2), 20, 2, 0, 3)
	return good(t, n, err)
}

// up brings a negotiation to ReqSent; its request has the Id 1.
func up(t *testing.T, n *neg.Neg) *neg.Neg {
	t.Helper()
	says(t, "Open", n.Do(api.Open))
	n.Do(api.Up)
	is(t, "Up", n, api.ReqSent)
	return n
}

// is holds a negotiation's state against what it should be.
func is(t *testing.T, what string, n *neg.Neg, state int) {
	t.Helper()
	if got := n.State(); got != state {
		t.Fatalf("%s: State() = %d, not %s", what, got, states[state])
	}
}

// has holds what was acked against what it should be.
func has(t *testing.T, what string, n *neg.Neg, mine, theirs []api.Option) {
	t.Helper()
	if m, l := n.Mine(), n.Theirs(); !slices.Equal(m, mine) || !slices.Equal(l, theirs) {
		t.Errorf("%s: Mine() = %v, Theirs() = %v, not %v, %v", what, m, l, mine, theirs)
	}
}

// alike tells whether packets are the same; nil and an empty list mean the same.
func alike(a, b api.Packet) bool {
	return a.Code == b.Code && a.Id == b.Id && a.Data == b.Data && slices.Equal(a.Options, b.Options)
}

// says holds packets against what they should be.
func says(t *testing.T, what string, got []api.Packet, want ...api.Packet) {
	t.Helper()
	if !slices.EqualFunc(got, want, alike) {
		t.Errorf("%s: %v, not %v", what, got, want)
	}
}

// lays holds the bytes of the one packet that is sent against what they should be.
func lays(t *testing.T, what string, got []api.Packet, want string) {
	t.Helper()
	if len(got) != 1 {
		t.Errorf("%s: %v, not one packet", what, got)
		return
	}
	if b, err := opts.Put(got[0]); b != want || err != api.OK {
		t.Errorf("%s: %q, %d, not %q", what, b, err, want)
	}
}

// orders tells all orders of some options.
func orders(l []api.Option) [][]api.Option {
	if len(l) == 0 {
		return [][]api.Option{nil}
	}
	var out [][]api.Option
	for i := range l {
		for _, rest := range orders(slices.Delete(slices.Clone(l), i, i+1)) {
			out = append(out, append([]api.Option{l[i]}, rest...))
		}
	}
	return out
}

// maker makes a client or a server of the four numbers.
type maker func(configure, terminate, fails, wait int) (*neg.Neg, api.Errno)

func makers() map[string]maker {
	return map[string]maker{
		"Client": func(c, e, f, w int) (*neg.Neg, api.Errno) { return Client(c, e, f, w, false) },
		"Client with dns": func(c, e, f, w int) (*neg.Neg, api.Errno) {
			return Client(c, e, f, w, true)
		},
		"Server": func(c, e, f, w int) (*neg.Neg, api.Errno) {
			return Server(addr(own), addr(peer), addr(first), addr(second), c, e, f, w)
		},
		"Server of noughts": func(c, e, f, w int) (*neg.Neg, api.Errno) {
			return Server(api.Addr{}, api.Addr{}, api.Addr{}, api.Addr{}, c, e, f, w)
		},
	}
}

// Each number at its edges, and outside of them, by itself and with the others.
func TestP1701Numbers(t *testing.T) {
	far := []int{math.MinInt, -1 << 32, -256, -1, 0, 1, 2, 19, 20, 21, 99, 100, 101, 256, 257, 1 << 32, 1<<32 + 1, math.MaxInt}
	few := []int{-1, 0, 1, 20, 21, 100, 101}
	for what, make := range makers() {
		hold := func(c, e, f, w int) {
			t.Helper()
			n, err := make(c, e, f, w)
			if c < 1 || c > 20 || e < 1 || e > 20 || f < 0 || f > 20 || w < 1 || w > 100 {
				if n != nil || err != api.ErrArg {
					t.Errorf("%s(%d, %d, %d, %d) = %v, %d, not ErrArg", what, c, e, f, w, n, err)
				}
				return
			}
			if n == nil || err != api.OK || n.State() != api.Initial {
				t.Errorf("%s(%d, %d, %d, %d) = %v, %d", what, c, e, f, w, n, err)
			}
		}
		for _, v := range far {
			hold(v, 1, 1, 1)
			hold(1, v, 1, 1)
			hold(1, 1, v, 1)
			hold(1, 1, 1, v)
		}
		for _, c := range few {
			for _, e := range few {
				for _, f := range few {
					for _, w := range few {
						hold(c, e, f, w)
					}
				}
			}
		}
	}
}

// said counts the packets of a Code that are sent in some ticks, and tells at which of them the first one was.
func said(n *neg.Neg, code, ticks int) (count, at int) {
	for i := range ticks {
		for _, p := range n.Tick() {
			if p.Code != code {
				continue
			}
			if count == 0 {
				at = i + 1
			}
			count++
		}
	}
	return count, at
}

// Each number stands where it should: with unlike ones, how often it asks, how often it ends, how long it waits, how often it naks.
func TestP1701NumbersInTheirPlaces(t *testing.T) {
	for what, make := range makers() {
		for _, x := range [][4]int{{2, 3, 4, 5}, {5, 4, 3, 2}, {3, 5, 2, 4}, {20, 1, 0, 100}, {1, 20, 20, 1}, {4, 2, 1, 7}} {
			configure, terminate, fails, wait := x[0], x[1], x[2], x[3]
			again := func(count int) (int, int) {
				if count == 1 {
					return 0, 0
				}
				return count - 1, wait
			}
			n, err := make(configure, terminate, fails, wait)
			up(t, good(t, n, err))
			count, at := said(n, api.ConfReq, wait*30)
			if a, b := again(configure); count != a || at != b {
				t.Errorf("%s %v: %d requests anew, the first at %d", what, x, count, at)
			}
			is(t, what, n, api.Stopped)
			n, err = make(configure, terminate, fails, wait)
			up(t, good(t, n, err)).Do(api.Close)
			count, at = said(n, api.TermReq, wait*30)
			if a, b := again(terminate); count != a || at != b {
				t.Errorf("%s %v: %d ends anew, the first at %d", what, x, count, at)
			}
			is(t, what, n, api.Closed)
			n, err = make(configure, terminate, fails, wait)
			up(t, good(t, n, err))
			for i := range 50 {
				want := api.ConfNak
				if fails > 0 && i >= fails {
					want = api.ConfRej
				}
				got := n.Take(pk(api.ConfReq, i, opt(3, "abc")))
				if len(got) != 1 || got[0].Code != want {
					t.Fatalf("%s %v: to request %d: %v", what, x, i, got)
				}
			}
		}
	}
}
