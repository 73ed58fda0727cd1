package neg

import (
	"slices"
	"testing"

	"tollgate/api"
)

// What stands beside the chapter's calls, for the layers that negotiate by more than a Setup.

// Each request is judged by the rules that come with it, behind Fails naks, too; naks are counted in one row with Take's.
func TestTakeRequest(t *testing.T) {
	other := []api.Rule{{Type: 8, Len: 1, Min: 5, Max: 5, Suggest: "\x05"}}
	good, bad := opt(8, "\x05"), opt(8, "\x06")
	n := in(t, setup(), api.ReqSent)
	says(t, "a good one", n.TakeRequest(pk(api.ConfReq, 4, good), other), pk(api.ConfAck, 4, good))
	is(t, "a good one", n, api.AckSent)
	says(t, "one by the Setup's", n.TakeRequest(pk(api.ConfReq, 5, opt(3, "\x07")), other), pk(api.ConfRej, 5, opt(3, "\x07")))
	says(t, "the first nak", n.TakeRequest(pk(api.ConfReq, 6, bad), other), pk(api.ConfNak, 6, good))
	says(t, "the second nak", n.Take(pk(api.ConfReq, 7, opt(3, ""))), pk(api.ConfNak, 7, opt(3, "\x07")))
	says(t, "behind Fails", n.TakeRequest(pk(api.ConfReq, 8, bad), other), pk(api.ConfRej, 8, bad))
	says(t, "behind Fails, by the Setup's", n.Take(pk(api.ConfReq, 8, opt(3, ""))), pk(api.ConfRej, 8, opt(3, "")))
	says(t, "no rules", n.TakeRequest(pk(api.ConfReq, 9, good), nil), pk(api.ConfRej, 9, good))
	l := []api.Option{good}
	spoilPackets(n.TakeRequest(pk(api.ConfReq, 10, l...), other))
	spoil(l)
	n.Take(pk(api.ConfAck, 1, ask()...))
	has(t, "Opened", n, ask(), []api.Option{good})
}

// A nak tells what the request took on of it.
func TestTakeNak(t *testing.T) {
	for _, x := range []struct {
		what  string
		nak   api.Packet
		taken []api.Option
		want  []api.Option // the request; none, if nothing is sent
	}{
		{"nothing", pk(api.ConfNak, 1), nil, ask()},
		{"what fits", pk(api.ConfNak, 1, opt(5, "nn"), opt(1, "\x00\x64")), []api.Option{opt(5, "nn"), opt(1, "\x00\x64")}, []api.Option{opt(1, "\x00\x64"), opt(5, "nn"), opt(7, "q"), opt(9, "z")}},
		{"what does not fit", pk(api.ConfNak, 1, opt(5, "n"), opt(9, "Z"), opt(7, "q")), nil, []api.Option{opt(1, "\x04\x00"), opt(9, "z")}},
		{"what is not asked for", pk(api.ConfNak, 1, opt(8, "x")), nil, ask()},
		{"twice, the last not fitting", pk(api.ConfNak, 1, opt(5, "nn"), opt(5, "")), []api.Option{opt(5, "nn")}, []api.Option{opt(1, "\x04\x00"), opt(7, "q"), opt(9, "z")}},
		{"another Id", pk(api.ConfNak, 2, opt(5, "nn")), nil, nil},
	} {
		n := in(t, setup(), api.ReqSent)
		out, taken := n.TakeNak(x.nak)
		if !slices.Equal(taken, x.taken) {
			t.Errorf("%s: %v is taken, not %v", x.what, taken, x.taken)
		}
		if x.want == nil {
			says(t, x.what, out)
			continue
		}
		says(t, x.what, out, pk(api.ConfReq, 2, x.want...))
		spoil(taken)
		says(t, x.what, n.Take(pk(api.ConfNak, 2)), pk(api.ConfReq, 3, x.want...))
	}
}

// Ids are of one row, whoever takes them; the last one stays that of the last request.
func TestNextId(t *testing.T) {
	n := in(t, setup(), api.ReqSent)
	for id := 2; id < 600; id++ {
		if got := n.NextId(); got != id%256 {
			t.Fatalf("NextId() = %d, not %d", got, id%256)
		}
	}
	says(t, "a nak", n.Take(pk(api.ConfNak, 1)), pk(api.ConfReq, 600%256, ask()...))
}

func TestLayersCallsOfNilAndZero(t *testing.T) {
	for what, n := range map[string]*Neg{"nil": nil, "zero": {}} {
		says(t, what, n.TakeRequest(pk(api.ConfReq, 1), nil))
		out, taken := n.TakeNak(pk(api.ConfNak, 0))
		if len(out) > 0 || len(taken) > 0 || n.NextId() != 0 || n.NextId() != 0 {
			t.Errorf("%s: something happened: %v, %v", what, out, taken)
		}
	}
}
