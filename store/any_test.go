package store

import (
	"fmt"
	"math"
	"math/big"
	"math/rand/v2"
	"strings"
	"testing"

	"tollgate/api"
)

// Any steps, held against a store that keeps a diary and works out of it what is so.

// line is a line of the diary: a secret that was set, or a try that was heard.
type line struct {
	name   string
	set    bool
	secret string // that was set
	right  bool
	time   int
}

type diary struct {
	limit, calm int
	lines       []line
}

// spelt tells one spelling of a name: with no sign at all it has one at its end.
func spelt(full string) string {
	if strings.Contains(full, "@") {
		return full
	}
	return full + "@"
}

// secret tells what was set last.
func (d *diary) secret(full string) string {
	for i := len(d.lines) - 1; i >= 0; i-- {
		if l := d.lines[i]; l.set && l.name == spelt(full) {
			return l.secret
		}
	}
	return ""
}

// row tells the times of the wrong tries behind the last right one, the last one first.
func (d *diary) row(full string) []int {
	var times []int
	for i := len(d.lines) - 1; i >= 0; i-- {
		l := d.lines[i]
		if l.name != spelt(full) {
			continue
		}
		if l.right || l.set && l.secret == "" {
			break
		}
		if !l.set {
			times = append(times, l.time)
		}
	}
	return times
}

func (d *diary) names() int {
	sizes := map[string]int{}
	for _, l := range d.lines {
		if l.set {
			sizes[l.name] = len(l.secret)
		}
	}
	n := 0
	for _, size := range sizes {
		n += min(size, 1)
	}
	return n
}

func (d *diary) set(full, secret string) api.Errno {
	if len(full) > 60 || len(secret) > 60 {
		return api.ErrLong
	}
	if d.names() == 100 && d.secret(full) == "" {
		return api.ErrFull
	}
	d.lines = append(d.lines, line{name: spelt(full), set: true, secret: secret})
	return api.OK
}

func (d *diary) try(full, secret string, time int) api.Errno {
	known, row := d.secret(full), d.row(full)
	if known == "" {
		return api.ErrAuth
	}
	if d.limit > 0 && len(row) >= d.limit {
		gone := new(big.Int).Sub(big.NewInt(int64(time)), big.NewInt(int64(row[0])))
		if gone.Cmp(big.NewInt(int64(d.calm))) < 0 {
			return api.ErrState
		}
	}
	d.lines = append(d.lines, line{name: spelt(full), right: secret == known, time: time})
	if secret != known {
		return api.ErrAuth
	}
	return api.OK
}

// anyTime goes on, mostly, by some ticks.
func anyTime(r *rand.Rand, now int) int {
	switch r.IntN(40) {
	case 0:
		return []int{math.MinInt, math.MinInt + 3, -1, 0, math.MaxInt - 3, math.MaxInt}[r.IntN(6)]
	case 1:
		return r.IntN(200) - 100
	case 2:
		return now - r.IntN(20)
	}
	return now + r.IntN(4)
}

// pair is a store and its diary; times go on from now.
type pair struct {
	s   *Store
	d   *diary
	now int
}

func anyNames() []string {
	return []string{"", "@", "a", "a@", "a@x", "@x", "a@x@", "b", "nobody", run(60, 0), run(60, 0) + "@"}
}

// set sets any name's secret, or takes it away.
func (p *pair) set(t *testing.T, r *rand.Rand) {
	t.Helper()
	full, secret := anyNames()[r.IntN(11)], []string{"p", "q", "p", "q", "", run(61, 0)}[r.IntN(6)]
	is(t, fmt.Sprintf("Set(%q, %q)", full, secret), p.s.Set(full, secret), p.d.set(full, secret))
}

// try tries any name by Pap or Chap; what was answered.
func (p *pair) try(t *testing.T, r *rand.Rand) api.Errno {
	t.Helper()
	full, secret, w := anyNames()[r.IntN(11)], []string{"p", "q", "p\x00"}[r.IntN(3)], ways()[r.IntN(2)]
	p.now = anyTime(r, p.now)
	want := p.d.try(full, secret, p.now)
	is(t, fmt.Sprintf("%s(%q, %q, %d)", w.what, full, secret, p.now), w.try(p.s, full, secret, p.now), want)
	return want
}

func TestP1502AnySteps(t *testing.T) {
	r := rand.New(rand.NewPCG(15, 2))
	seen := map[api.Errno]int{}
	beyond := 0 // how often somebody had been wrong more than limit times
	for round := range 240 {
		limit, calm := []int{0, 1, 2, 5}[round%4], []int{1, 2, 10}[round%3]
		p := &pair{s: store(t, limit, calm), d: &diary{limit: limit, calm: calm}}
		for range 200 {
			if r.IntN(20) == 0 {
				p.set(t, r)
			} else {
				seen[p.try(t, r)]++
			}
			for _, name := range anyNames() {
				times := len(p.d.row(name))
				wrong(t, "any steps", p.s, name, times)
				if limit > 0 && times > limit {
					beyond++
				}
			}
			has(t, "any steps", p.s, p.d.names())
		}
	}
	for _, err := range []api.Errno{api.OK, api.ErrAuth, api.ErrState} {
		if seen[err] < 500 {
			t.Errorf("the answer %d was seen %d times", err, seen[err])
		}
	}
	if beyond < 500 {
		t.Errorf("more than limit wrong tries were seen %d times", beyond)
	}
}

// Names come and go around the end of the room.
func TestP1501AnySets(t *testing.T) {
	r := rand.New(rand.NewPCG(15, 1))
	s, d := store(t, 0, 1), &diary{calm: 1}
	seen := map[api.Errno]int{}
	for range 3000 {
		full, secret := fmt.Sprint(r.IntN(115))+[]string{"", "@"}[r.IntN(2)], "p"
		switch r.IntN(12) {
		case 0:
			secret = ""
		case 1:
			secret = run(58+r.IntN(6), 1)
		}
		want := d.set(full, secret)
		seen[want]++
		is(t, fmt.Sprintf("Set(%q, %q)", full, secret), s.Set(full, secret), want)
		has(t, "any sets", s, d.names())
		if known := d.secret(full); known != "" {
			is(t, "the secret", s.Pap(full, known, 0), api.OK)
		} else {
			is(t, "no secret", s.Pap(full, secret, 0), api.ErrAuth)
		}
	}
	for _, err := range []api.Errno{api.OK, api.ErrLong, api.ErrFull} {
		if seen[err] < 50 {
			t.Errorf("the answer %d was seen %d times", err, seen[err])
		}
	}
}
