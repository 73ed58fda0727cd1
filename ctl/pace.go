package ctl

const mostWindow = 64

// pace says how many messages may fly at once: more with each ack, but one alone behind a wait in vain.
type pace struct {
	window int // the peer's; the room is never above it
	room   int // so many may fly
	mark   int // below it the room grows with each ack
	count  int // acks that were counted at the mark or above it, since the room grew
}

func isWindow(n int) bool { return n >= 1 && n <= mostWindow }

func newPace(window int) pace { return pace{window: window, room: 1, mark: window} }

// limit sets the peer's window.
func (p *pace) limit(window int) {
	p.window, p.mark = window, window
	p.room = min(p.room, window)
}

// grow is told of each message that was acked.
func (p *pace) grow() {
	if p.room < p.mark {
		p.room++
		return
	}
	p.count++
	if p.count >= p.room {
		p.room = min(p.room+1, p.window)
		p.count = 0
	}
}

// fall is told of a wait in vain.
func (p *pace) fall() {
	p.mark = max(p.room/2, 1)
	p.room, p.count = 1, 0
}
