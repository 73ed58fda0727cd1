package tunnel

import "tollgate/api"

const patience = 3 // so many times Hello ticks it waits for the peer to come to Live

// Tick lets a tick go by.
func (t *Tunnel) Tick() {
	if t.isNone() {
		return
	}
	t.way.Tick()
	if t.way.Dead() {
		t.enter(Dead)
	}
	switch t.state {
	case WaitReply, WaitConn:
		if t.waited(patience * t.config.Hello) {
			t.enter(Dead)
		}
	case Live:
		if t.waited(t.config.Hello) {
			t.ticks = 0
			t.say(api.Hello)
		}
	}
}

// waited counts a tick, and tells whether it is the last one of so many.
func (t *Tunnel) waited(most int) bool {
	t.ticks++
	return t.ticks >= most
}
