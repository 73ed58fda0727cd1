package neg

import (
	"slices"

	"tollgate/api"
	"tollgate/opts"
)

// mostWide is how many bytes of a value count as its number: more have no room in an int.
const mostWide = 7

// Fits tells whether a value may be.
func Fits(r api.Rule, value string) bool {
	if len(value) != r.Len {
		return false
	}
	v, _ := opts.Value(value[:min(len(value), mostWide)])
	return v >= r.Min && v <= r.Max
}

// Judge tells the answer to a request.
func Judge(rules []api.Rule, l []api.Option) (int, []api.Option) { return byType(rules).judge(l) }

// book has the rule of each Type for which there is one.
type book map[int]api.Rule

func byType(rules []api.Rule) book {
	b := book{}
	for _, r := range rules {
		if _, ok := b[r.Type]; !ok {
			b[r.Type] = r
		}
	}
	return b
}

func (b book) judge(l []api.Option) (int, []api.Option) {
	if out := b.strangers(l); len(out) > 0 {
		return api.ConfRej, out
	}
	if out := b.misfits(l); len(out) > 0 {
		return api.ConfNak, b.suggestions(out)
	}
	return api.ConfAck, slices.Clone(l)
}

// strangers tells the options that can't be spoken of: those without a rule, and those whose Type was there already.
func (b book) strangers(l []api.Option) []api.Option {
	var out []api.Option
	seen := map[int]struct{}{}
	for _, o := range l {
		_, known := b[o.Type]
		_, again := seen[o.Type]
		if !known || again {
			out = append(out, o)
		}
		seen[o.Type] = struct{}{}
	}
	return out
}

// misfits tells the options that no rule lets be as they are.
func (b book) misfits(l []api.Option) []api.Option {
	var out []api.Option
	for _, o := range l {
		if !b.fits(o) {
			out = append(out, o)
		}
	}
	return out
}

func (b book) fits(o api.Option) bool {
	r, ok := b[o.Type]
	return ok && Fits(r, o.Value)
}

// suggestions tells what is named instead of options.
func (b book) suggestions(l []api.Option) []api.Option {
	var out []api.Option
	for _, o := range l {
		out = append(out, api.Option{Type: o.Type, Value: b[o.Type].Suggest})
	}
	return out
}
