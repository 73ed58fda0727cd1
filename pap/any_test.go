package pap

import (
	"math/rand/v2"
	"testing"

	"tollgate/api"
)

// P1302 at any steps, by a plain model of a client: it knows the tick at which each request of a Start will go, and at which tick it will be done.

type model struct {
	retry, wait int
	sent        int // requests in all
	now         int
	plan        []int // the ticks of all that is to come, the last one being the end; none while it does not ask
	done, good  bool
}

func (m *model) start() []api.Packet {
	m.plan, m.done, m.good = nil, false, false
	for k := 1; k <= m.retry+1; k++ {
		m.plan = append(m.plan, m.now+k*m.wait)
	}
	return m.request()
}

func (m *model) request() []api.Packet {
	m.sent++
	return []api.Packet{ask(m.sent % 256)}
}

func (m *model) tick() []api.Packet {
	m.now++
	if len(m.plan) == 0 || m.plan[0] != m.now {
		return nil
	}
	m.plan = m.plan[1:]
	if len(m.plan) == 0 {
		m.done = true
		return nil
	}
	return m.request()
}

func (m *model) take(p api.Packet) {
	if len(m.plan) > 0 && p.Id == m.sent%256 && (p.Code == 2 || p.Code == 3) {
		m.plan, m.done, m.good = nil, true, p.Code == 2
	}
}

func TestP1302AnySteps(t *testing.T) {
	r := rand.New(rand.NewPCG(13, 2))
	ended := [3]int{}
	for retry := range 5 {
		for _, wait := range []int{1, 2, 3, 7} {
			c, m := made(t, retry, wait), &model{retry: retry, wait: wait}
			for range 5000 {
				switch r.IntN(60) {
				case 0:
					says(t, "Start", c.Start(), m.start()...)
				case 1, 2, 3, 4, 5, 6:
					p := api.Packet{Code: r.IntN(5), Id: (m.sent + r.IntN(3) - 1) % 256, Data: []string{"", "\x02ok"}[r.IntN(2)]}
					c.Take(p)
					m.take(p)
				default:
					says(t, "Tick", c.Tick(), m.tick()...)
				}
				is(t, "any steps", c, m.done, m.good)
				if m.good {
					ended[2]++
				} else if m.done {
					ended[1]++
				} else {
					ended[0]++
				}
			}
			if m.sent < 30 {
				t.Errorf("retry %d, wait %d: %d requests alone", retry, wait, m.sent)
			}
		}
	}
	for i, n := range ended {
		if n < 1000 {
			t.Errorf("the end %d was seen %d times", i, n)
		}
	}
}

// Any bytes: no panic, and what is taken is what would be laid so.
func TestP1301AnyBytes(t *testing.T) {
	r := rand.New(rand.NewPCG(13, 1))
	seen := map[api.Errno]int{}
	for range 200000 {
		b := []byte(putReq(run(r.IntN(4), byte(r.IntN(256))), run(r.IntN(4), byte(r.IntN(256)))).text)
		for range r.IntN(3) {
			b[r.IntN(len(b))] = byte(r.IntN([]int{4, 70}[r.IntN(2)])) // often a length that is near
		}
		data := string(b[:len(b)-r.IntN(2)])
		got := getReq(data)
		seen[got.err]++
		if got.err == api.OK && putReq(got.name, got.secret) != (said{data, api.OK}) || got.err != api.OK && got != (pair{err: got.err}) {
			t.Fatalf("GetReq(%q) = %#v", data, got)
		}
		text := getSay(data)
		if text.err == api.OK && data != "" && putSay(text.text) != (said{data, api.OK}) || text.err != api.OK && text.text != "" {
			t.Fatalf("GetSay(%q) = %#v", data, text)
		}
		if ok := serve(api.Packet{Code: 1, Data: data}); ok != (served{got.name, got.secret, got.err == api.OK}) {
			t.Fatalf("Serve of %q = %#v", data, ok)
		}
	}
	for _, err := range []api.Errno{api.OK, api.ErrShort, api.ErrLong, api.ErrForm} {
		if seen[err] < 1000 {
			t.Errorf("the error %d was seen %d times", err, seen[err])
		}
	}
}
