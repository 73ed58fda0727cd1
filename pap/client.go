package pap

import "tollgate/api"

const (
	mostRetry = 10
	mostWait  = 100
)

// What a client is at.
const (
	idle = iota
	asking
	taken
	refused
)

// Client authenticates itself.
type Client struct {
	data        string // of each request
	retry, wait int
	id          int // of the last request
	state       int
	again       int // how often it was sent anew since Start
	ticks       int // since the last request
}

// New makes a client.
func New(name, secret string, retry, wait int) (*Client, api.Errno) {
	data, err := PutReq(name, secret)
	if err != api.OK {
		return nil, err
	}
	if retry < 0 || retry > mostRetry || wait < 1 || wait > mostWait {
		return nil, api.ErrArg
	}
	return &Client{data: data, retry: retry, wait: wait}, api.OK
}

// Start begins; what is sent.
func (c *Client) Start() []api.Packet {
	if c == nil || c.wait == 0 { // what New makes waits
		return nil
	}
	c.state = asking
	c.again = 0
	return c.ask()
}

// Tick lets a tick go by; what is sent.
func (c *Client) Tick() []api.Packet {
	if !c.asks() {
		return nil
	}
	c.ticks++
	if c.ticks < c.wait {
		return nil
	}
	if c.again == c.retry {
		c.state = refused
		return nil
	}
	c.again++
	return c.ask()
}

// Take takes a packet.
func (c *Client) Take(p api.Packet) {
	if !c.asks() || p.Id != c.id {
		return
	}
	switch p.Code {
	case Ack:
		c.state = taken
	case Nak:
		c.state = refused
	}
}

// Done tells whether it is done, and good.
func (c *Client) Done() (bool, bool) {
	if c == nil {
		return false, false
	}
	return c.state == taken || c.state == refused, c.state == taken
}

// asks tells whether c waits for an answer; no client and a zero one never do.
func (c *Client) asks() bool { return c != nil && c.state == asking }

// ask makes the next request; its Id wraps as a byte does.
func (c *Client) ask() []api.Packet {
	c.id = int(byte(c.id + 1))
	c.ticks = 0
	return []api.Packet{{Code: Req, Id: c.id, Data: c.data}}
}
