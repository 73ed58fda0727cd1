package pap

import (
	"slices"
	"testing"

	"tollgate/api"
	"tollgate/opts"
)

// P1303.

type served struct {
	name, secret string
	ok           bool
}

func serve(p api.Packet) served {
	name, secret, ok := Serve(p)
	return served{name, secret, ok}
}

func TestP1303Serve(t *testing.T) {
	for _, name := range texts() {
		for _, secret := range texts() {
			for _, id := range append(ends(), 0, 1, 255) {
				if got := serve(req(id, name, secret)); got != (served{name, secret, true}) {
					t.Errorf("Serve of %q, %q = %#v", name, secret, got)
				}
			}
		}
	}
}

// Codes beside the one are none, those neither that a byte would tell as it.
func TestP1303ServeCodes(t *testing.T) {
	codes := append(ends(), 1<<8+1, 1<<16+1, -255)
	for code := -300; code < 600; code++ {
		codes = append(codes, code)
	}
	for _, code := range codes {
		p := req(7, "u", "p")
		p.Code = code
		want := served{}
		if code == 1 {
			want = served{"u", "p", true}
		}
		if got := serve(p); got != want {
			t.Errorf("Serve of the code %d = %#v", code, got)
		}
	}
}

func TestP1303ServeData(t *testing.T) {
	for _, data := range []string{"", "\x00", "\x01u", "\x01u\x01", "\x01u\x02p", "\x01u\x01p\x00", "\x01u\x01pp", "\x3d" + run(61, 0) + "\x00", "\x00\x3d" + run(61, 0), "\x3d", "\xff", run(1500, 1)} {
		if got := serve(api.Packet{Code: 1, Id: 1, Data: data}); got != (served{}) {
			t.Errorf("Serve of %q = %#v", data, got)
		}
	}
	if got := serve(api.Packet{Code: 1, Data: "\x00\x00"}); got != (served{ok: true}) {
		t.Errorf("Serve of neither name nor secret = %#v", got)
	}
}

func TestP1303ServeOptions(t *testing.T) {
	p := req(1, "u", "p")
	for n := 1; n < 40; n++ {
		p.Options = make([]api.Option, n)
		if got := serve(p); got != (served{}) {
			t.Errorf("Serve with %d options = %#v", n, got)
		}
	}
	p.Options = make([]api.Option, 0, 5)
	if got := serve(p); got != (served{"u", "p", true}) {
		t.Errorf("Serve with a list of no options = %#v", got)
	}
}

func TestP1303Answer(t *testing.T) {
	ids := ends()
	for id := -2; id < 300; id++ {
		ids = append(ids, id)
	}
	for _, id := range ids {
		for _, p := range []api.Packet{{Id: id}, req(id, "u", "p"), {Code: -3, Id: id, Data: "x", Options: []api.Option{{Type: 1, Value: "v"}}}} {
			says(t, "good", []api.Packet{Answer(p, true)}, api.Packet{Code: 2, Id: id, Data: "\x02ok"})
			says(t, "not good", []api.Packet{Answer(p, false)}, api.Packet{Code: 3, Id: id, Data: "\x02no"})
		}
	}
}

// What is said can be read.
func TestP1303AnswerIsSaid(t *testing.T) {
	for good, want := range map[bool]string{true: "ok", false: "no"} {
		if got := getSay(Answer(api.Packet{}, good).Data); got != (said{want, api.OK}) {
			t.Errorf("what is said: %#v", got)
		}
	}
}

// What is handed in stays as it is, its spare room too.
func TestP1303ThePacketStays(t *testing.T) {
	full := []api.Option{{Type: 1, Value: "a"}, {Type: 2, Value: "b"}, {Type: 3, Value: "room"}}
	kept := slices.Clone(full)
	p := api.Packet{Code: 1, Id: 9, Options: full[:2], Data: "\x01u\x01p"}
	Serve(p)
	Answer(p, true)
	Answer(p, false)
	c := started(t, 1, 1)
	c.Take(p)
	p.Code, p.Id = 2, 1
	c.Take(p)
	if !slices.Equal(full, kept) {
		t.Errorf("%v is left", full)
	}
}

// link takes packets through bytes, as the layers below will.
func link(t *testing.T, p api.Packet) api.Packet {
	t.Helper()
	b, err := opts.PutData(p)
	if err != api.OK {
		t.Fatalf("PutData(%#v) = %d", p, err)
	}
	got, err := opts.GetData(b + "filling")
	if err != api.OK {
		t.Fatalf("GetData = %d", err)
	}
	return got
}

// A client and one who answers, through bytes: it is good if that says so.
func TestP1303BothEnds(t *testing.T) {
	for _, name := range texts() {
		for _, secret := range texts() {
			c, err := New(name, secret, 1, 1)
			if err != api.OK {
				t.Fatal(err)
			}
			for range 3 {
				for _, good := range []bool{true, false} {
					c.Start()
					p := link(t, c.Tick()[0])
					if got := serve(p); got != (served{name, secret, true}) {
						t.Fatalf("Serve = %#v", got)
					}
					c.Take(link(t, Answer(p, good)))
					is(t, "answered", c, true, good)
				}
			}
		}
	}
}
