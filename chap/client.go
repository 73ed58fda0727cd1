package chap

import (
	"tollgate/api"
	"tollgate/digest"
)

// Client proves that it knows a secret.
type Client struct {
	made         bool // neither name nor secret tells it: both may be empty
	name, secret string
	answered     bool
	id           int // of the last Response, if it answered
	done, good   bool
}

// NewClient makes a client.
func NewClient(name, secret string) (*Client, api.Errno) {
	if isLong(name) || isLong(secret) {
		return nil, api.ErrLong
	}
	return &Client{made: true, name: name, secret: secret}, api.OK
}

// Take takes a packet; what is sent.
func (c *Client) Take(p api.Packet) []api.Packet {
	if c == nil || !c.made {
		return nil
	}
	switch p.Code {
	case Challenge:
		return c.answer(p)
	case Success, Failure:
		c.hear(p)
	}
	return nil
}

// Done tells whether it is done, and good.
func (c *Client) Done() (bool, bool) {
	if c == nil {
		return false, false
	}
	return c.done, c.good
}

// answer makes the Response to a challenge. It does so when c is done, too: the server may have asked anew.
func (c *Client) answer(p api.Packet) []api.Packet {
	value, _, err := GetValue(p.Data)
	if err != api.OK {
		return nil
	}
	c.answered, c.id = true, p.Id
	proof := digest.Chap(p.Id, c.secret, value)
	return []api.Packet{{Code: Response, Id: p.Id, Data: lay(proof, c.name)}}
}

// hear takes what the last Response was found to be.
func (c *Client) hear(p api.Packet) {
	if !c.answered || p.Id != c.id {
		return
	}
	c.done, c.good = true, p.Code == Success
}
