package pool

import (
	"testing"

	"tollgate/api"
)

// P1604.

// none looks that a pool has no address, at every call and behind each.
func none(t *testing.T, p *Pool) {
	t.Helper()
	for range 2 {
		for _, k := range far() {
			isFull(t, p, k)
			hasNone(t, p, k)
			gives(t, p, k, api.ErrIndex)
			free(t, p, 0)
		}
		for _, a := range append(places(), row(bottom, 300)...) {
			nobody(t, p, a)
		}
	}
}

func TestP1604Nil(t *testing.T) { none(t, nil) }

func TestP1604Zero(t *testing.T) {
	none(t, new(Pool))
	none(t, &Pool{})
	var in struct{ p Pool }
	none(t, &in.p)
}

// What New answers with an error is a nil Pool, and is as one.
func TestP1604OfNew(t *testing.T) {
	p, _ := New(top, 2)
	none(t, p)
}
