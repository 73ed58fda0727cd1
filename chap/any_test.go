package chap

import (
	"math/rand/v2"
	"testing"

	"tollgate/api"
)

// Any steps and any bytes, held against ends that keep a diary and work out of it what is so.

// step is a line of a server's diary.
type step struct {
	tick, judge bool
	good        bool
	claim       bool // a Response that could be one
}

// diary is a server that knows how often it started, and what came since.
type diary struct {
	retry, wait int
	starts      int
	value       string
	since       []step
}

func (d *diary) id() int { return d.starts % 256 }

// ticks counts the ticks among the first n lines.
func (d *diary) ticks(n int) int {
	ticks := 0
	for _, s := range d.since[:n] {
		if s.tick {
			ticks++
		}
	}
	return ticks
}

func (d *diary) end() int { return d.wait * (d.retry + 1) }

// claimed tells the line of the claim, -1 without one.
func (d *diary) claimed() int {
	for i, s := range d.since {
		if s.claim && d.ticks(i) < d.end() {
			return i
		}
	}
	return -1
}

// judged tells the line at which it was judged, -1 without one.
func (d *diary) judged() int {
	if at := d.claimed(); at >= 0 {
		for i := at; i < len(d.since); i++ {
			if d.since[i].judge {
				return i
			}
		}
	}
	return -1
}

func (d *diary) start(value string) []api.Packet {
	if len(value) < 1 || len(value) > 60 {
		return nil
	}
	d.starts++
	d.value, d.since = value, nil
	return []api.Packet{asks(d.id(), value)}
}

func (d *diary) tick() []api.Packet {
	if d.starts == 0 {
		return nil
	}
	d.since = append(d.since, step{tick: true})
	n := d.ticks(len(d.since))
	if d.claimed() >= 0 || n >= d.end() || n%d.wait > 0 {
		return nil
	}
	return []api.Packet{asks(d.id(), d.value)}
}

func (d *diary) take(p api.Packet) (Claim, bool) {
	got := getValue(p.Data)
	if d.starts == 0 || p.Code != 2 || p.Id != d.id() || got.err != api.OK {
		return Claim{}, false
	}
	d.since = append(d.since, step{claim: true})
	if d.claimed() != len(d.since)-1 {
		return Claim{}, false
	}
	return Claim{got.name, d.value, got.value, d.id()}, true
}

func (d *diary) judge(good bool) []api.Packet {
	d.since = append(d.since, step{judge: true, good: good})
	if d.judged() != len(d.since)-1 {
		return nil
	}
	return d.verdict()
}

func (d *diary) verdict() []api.Packet {
	if d.since[d.judged()].good {
		return []api.Packet{bare(3, d.id())}
	}
	return []api.Packet{bare(4, d.id())}
}

func (d *diary) again(p api.Packet) []api.Packet {
	if d.judged() < 0 || p.Code != 2 || p.Id != d.id() {
		return nil
	}
	return d.verdict()
}

func (d *diary) done() (bool, bool) {
	if at := d.judged(); at >= 0 {
		return true, d.since[at].good
	}
	return d.starts > 0 && d.claimed() < 0 && d.ticks(len(d.since)) >= d.end(), false
}

// anyData tells bytes, often such as hold a value.
func anyData(r *rand.Rand) string {
	b := []byte(head(1+r.IntN(3)) + run(r.IntN(5), byte(r.IntN(256))))
	if r.IntN(4) == 0 {
		b[r.IntN(len(b))] = byte(r.IntN(80))
	}
	if r.IntN(10) == 0 {
		b = append(b, run(r.IntN(130), 3)...)
	}
	return string(b[:len(b)-r.IntN(2)])
}

// anyResponse tells a packet, often such as could be a claim.
func anyResponse(r *rand.Rand, id int) api.Packet {
	p := api.Packet{Code: 2, Id: id, Data: anyData(r)}
	if r.IntN(3) == 0 {
		p.Code = r.IntN(6)
	}
	if r.IntN(3) == 0 {
		p.Id = id + r.IntN(3) - 1
	}
	return p
}

func TestP1403AnySteps(t *testing.T) {
	r := rand.New(rand.NewPCG(14, 3))
	seen := [5]int{} // not done, not answered, claimed, good, not good
	for retry := range 4 {
		for _, wait := range []int{1, 2, 3, 7} {
			s, d := server(t, retry, wait), &diary{retry: retry, wait: wait}
			for range 8000 {
				oneStep(t, r, s, d)
				done, good := d.done()
				is(t, "any steps", s, done, good)
				switch {
				case good:
					seen[3]++
				case d.judged() >= 0:
					seen[4]++
				case done:
					seen[1]++
				case d.claimed() >= 0:
					seen[2]++
				default:
					seen[0]++
				}
			}
			if d.starts <= 256 { // Ids must have come round
				t.Errorf("retry %d, wait %d: %d starts alone", retry, wait, d.starts)
			}
		}
	}
	for i, n := range seen {
		if n < 1000 {
			t.Errorf("the end %d was seen %d times", i, n)
		}
	}
}

func oneStep(t *testing.T, r *rand.Rand, s *Server, d *diary) {
	t.Helper()
	switch r.IntN(14) {
	case 0:
		value := run(1+r.IntN(60), byte(r.IntN(256)))
		if r.IntN(4) == 0 {
			value = noValues()[r.IntN(len(noValues()))]
		}
		says(t, "Start", s.Start(value), d.start(value)...)
	case 1:
		good := r.IntN(2) == 0
		says(t, "Judge", s.Judge(good), d.judge(good)...)
	case 2:
		p := anyResponse(r, d.id())
		got, ok := s.Take(p)
		if want, found := d.take(p); got != want || ok != found {
			t.Fatalf("Take(%#v) = %#v, %v, not %#v, %v", p, got, ok, want, found)
		}
	case 3:
		p := anyResponse(r, d.id())
		says(t, "Again", s.Again(p), d.again(p)...)
	default:
		says(t, "Tick", s.Tick(), d.tick()...)
	}
}

// heard tells by all that came to a client whether it is done, and good: the last answer to what was then the last Response says so.
func heard(came []api.Packet) (bool, bool) {
	for i := len(came) - 1; i >= 0; i-- {
		if came[i].Code != 3 && came[i].Code != 4 {
			continue
		}
		for j := i - 1; j >= 0; j-- {
			if came[j].Code != 1 || getValue(came[j].Data).err != api.OK {
				continue
			}
			if came[j].Id == came[i].Id {
				return true, came[i].Code == 3
			}
			break
		}
	}
	return false, false
}

func TestP1402AnySteps(t *testing.T) {
	r := rand.New(rand.NewPCG(14, 2))
	seen := [3]int{}
	for range 400 {
		c := client(t)
		var came []api.Packet
		for range 30 {
			p := api.Packet{Code: r.IntN(6), Id: r.IntN(4), Data: anyData(r)}
			came = append(came, p)
			var want []api.Packet
			if got := getValue(p.Data); p.Code == 1 && got.err == api.OK {
				want = []api.Packet{proves(p.Id, got.value)}
			}
			says(t, "Take", c.Take(p), want...)
			done, good := heard(came)
			is(t, "any steps", c, done, good)
			if good {
				seen[2]++
			} else if done {
				seen[1]++
			} else {
				seen[0]++
			}
		}
	}
	for i, n := range seen {
		if n < 1000 {
			t.Errorf("the end %d was seen %d times", i, n)
		}
	}
}

// Any bytes: no panic, and what is taken is what would be laid so.
func TestP1401AnyBytes(t *testing.T) {
	r := rand.New(rand.NewPCG(14, 1))
	seen := map[api.Errno]int{}
	for range 200000 {
		data := anyData(r)
		got := getValue(data)
		seen[got.err]++
		if got.err == api.OK && putValue(got.value, got.name) != (said{data, api.OK}) || got.err != api.OK && got != (pair{err: got.err}) {
			t.Fatalf("GetValue(%q) = %#v", data, got)
		}
	}
	for _, err := range []api.Errno{api.OK, api.ErrShort, api.ErrLong, api.ErrArg} {
		if seen[err] < 1000 {
			t.Errorf("the error %d was seen %d times", err, seen[err])
		}
	}
}
