package store

import (
	"math"

	"tollgate/api"
	"tollgate/digest"
)

// Pap judges a secret.
func (s *Store) Pap(full, secret string, time int) api.Errno {
	return s.judge(full, time, func(known string) bool {
		return digest.Same(secret, known)
	})
}

// Chap judges a proof.
func (s *Store) Chap(full string, id int, value, response string, time int) api.Errno {
	return s.judge(full, time, func(known string) bool {
		return digest.Same(response, digest.Chap(id, known, value))
	})
}

// judge judges a try, which is right or not by the secret that is known.
func (s *Store) judge(full string, time int, right func(known string) bool) api.Errno {
	if s == nil {
		return api.ErrArg
	}
	who := Split(full)
	r, found := s.known[who]
	if !found {
		return api.ErrAuth
	}
	if s.isShut(r, time) {
		return api.ErrState
	}
	if !right(r.secret) {
		s.known[who] = r.wrongAt(time)
		return api.ErrAuth
	}
	s.known[who] = record{secret: r.secret}
	return api.OK
}

// isShut tells whether a name may not try at a time.
func (s *Store) isShut(r record, time int) bool {
	if s.limit == 0 || r.wrong < s.limit {
		return false
	}
	// Without a sign the way from last to time has room even from the least int to the greatest.
	return time < r.last || uint(time)-uint(r.last) < uint(s.calm)
}

// wrongAt tells what is known of a name behind one more wrong try.
func (r record) wrongAt(time int) record {
	if r.wrong < math.MaxInt32 {
		r.wrong++
	}
	r.last = time
	return r
}
