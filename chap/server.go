package chap

import (
	"strings"

	"tollgate/api"
)

const (
	mostRetry = 10
	mostWait  = 100
)

// What a server is at.
const (
	idle = iota
	asking
	claimed // it waits for a Judge
	unheard // no claim came in time
	taken
	refused
)

// Server asks for a proof.
type Server struct {
	name        string
	retry, wait int
	value       string // that was asked last
	id          int    // of the last Challenge
	state       int
	again       int // how often it was sent anew since Start
	ticks       int // since it was sent last
}

// Claim is what a client claims.
type Claim struct {
	Name, Value, Response string
	Id                    int
}

// NewServer makes a server.
func NewServer(name string, retry, wait int) (*Server, api.Errno) {
	if isLong(name) {
		return nil, api.ErrLong
	}
	if retry < 0 || retry > mostRetry || wait < 1 || wait > mostWait {
		return nil, api.ErrArg
	}
	return &Server{name: name, retry: retry, wait: wait}, api.OK
}

// Start asks; what is sent.
func (s *Server) Start(value string) []api.Packet {
	if s == nil || s.wait == 0 || !isSize(len(value)) { // what NewServer makes waits
		return nil
	}
	s.state = asking
	s.value = strings.Clone(value)
	s.id = int(byte(s.id + 1))
	s.again = 0
	return s.ask()
}

// Tick lets a tick go by; what is sent.
func (s *Server) Tick() []api.Packet {
	if !s.is(asking) {
		return nil
	}
	s.ticks++
	if s.ticks < s.wait {
		return nil
	}
	if s.again == s.retry {
		s.state = unheard
		return nil
	}
	s.again++
	return s.ask()
}

// Take takes a packet; the claim.
func (s *Server) Take(p api.Packet) (Claim, bool) {
	if !s.is(asking) || !s.isResponse(p) {
		return Claim{}, false
	}
	response, name, err := GetValue(p.Data)
	if err != api.OK {
		return Claim{}, false
	}
	s.state = claimed
	return Claim{Name: name, Value: s.value, Response: response, Id: s.id}, true
}

// Judge judges the claim; what is sent.
func (s *Server) Judge(good bool) []api.Packet {
	if !s.is(claimed) {
		return nil
	}
	s.state = refused
	if good {
		s.state = taken
	}
	return s.verdict()
}

// Again answers a claim that comes again.
func (s *Server) Again(p api.Packet) []api.Packet {
	if !s.is(taken) && !s.is(refused) || !s.isResponse(p) {
		return nil
	}
	return s.verdict()
}

// Done tells whether it is done, and good.
func (s *Server) Done() (bool, bool) {
	return s.is(unheard) || s.is(taken) || s.is(refused), s.is(taken)
}

// is tells whether s is at that; no server is at anything.
func (s *Server) is(state int) bool { return s != nil && s.state == state }

// isResponse tells whether a packet answers the last Challenge.
func (s *Server) isResponse(p api.Packet) bool { return p.Code == Response && p.Id == s.id }

// ask makes the Challenge; sent anew, it is the same one.
func (s *Server) ask() []api.Packet {
	s.ticks = 0
	return []api.Packet{{Code: Challenge, Id: s.id, Data: lay(s.value, s.name)}}
}

// verdict tells what the claim was judged to be.
func (s *Server) verdict() []api.Packet {
	code := Failure
	if s.state == taken {
		code = Success
	}
	return []api.Packet{{Code: code, Id: s.id}}
}
