package avp

import (
	"strings"

	"tollgate/api"
	"tollgate/digest"
)

// cover is what Values are hidden by: the secret, and the last vector that went by.
type cover struct {
	secret, vector string
	hasVector      bool // one may be empty, and counts
}

// pass lets a value go by, so that it is ahead of what comes.
func (c *cover) pass(a api.Avp) {
	if a.Vendor == 0 && a.Type == api.AvpVector && !a.Hidden {
		c.vector, c.hasVector = a.Value, true
	}
}

// lacks tells what is missing to hide or to show a Value.
func (c cover) lacks() api.Errno {
	if c.secret == "" {
		return api.ErrAuth
	}
	if !c.hasVector {
		return api.ErrMust
	}
	return api.OK
}

// hide tells what stands instead of a Value, which is not longer than may be.
func (c cover) hide(kind int, value string) (string, api.Errno) {
	if err := c.lacks(); err != api.OK {
		return "", err
	}
	size, _ := words(len(value))
	return digest.Mask(kind, c.secret, c.vector, size+value), api.OK
}

// show tells the Value instead of which that stands.
func (c cover) show(kind int, laid string) (string, api.Errno) {
	if err := c.lacks(); err != api.OK {
		return "", err
	}
	if len(laid) < wordLen {
		return "", api.ErrForm
	}
	shown := digest.Unmask(kind, c.secret, c.vector, laid)
	if word(shown, 0) != len(shown)-wordLen {
		return "", api.ErrForm
	}
	return strings.Clone(shown[wordLen:]), api.OK
}
