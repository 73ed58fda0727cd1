package tunnel

import (
	"strings"
	"testing"

	"tollgate/api"
	"tollgate/avp"
	"tollgate/byhand"
	"tollgate/msg"
)

// P2104: Sccrq, Sccrp and Scccn, and who knows the secret.

// answer is what a message leads to: what is seen then, and what is said.
type answer struct {
	look look
	out  string
}

// replies tells the answer to a good Sccrq.
func replies(c Config, id int, name, challenge string) answer {
	out := kind(2) + about("near", 5, 4)
	if c.Secret != "" {
		out += answers(2, c.Secret, challenge) + asks(run(1, 16))
	}
	return answer{look{WaitConn, 5, id, name, 9}, byhand.Ctl(id, 0, 0, 1, out)}
}

// ends tells the answer to a bad one.
func ends(id int, name string, code int) answer {
	return answer{look{Dead, 5, id, name, 0}, byhand.Ctl(id, 0, 0, 1, stop(5, code))}
}

// asking holds what a Sccrq leads to: in Idle, and in WaitReply with the lower tie, where more was drawn ahead of it.
func asking(t *testing.T, what string, c Config, values string, want answer) {
	t.Helper()
	e := idle(t, c)
	takes(t, what, e.Tunnel, byhand.Ctl(0, 0, 0, 0, values))
	is(t, what, e.Tunnel, want.look)
	outs(t, what, e.Tunnel, want.out)
	outs(t, what, e.Tunnel)

	what += ", both opened"
	e = waitReply(t, c)
	takes(t, what, e.Tunnel, byhand.Ctl(0, 0, 0, 1, values+tied(run(0, 8))))
	is(t, what, e.Tunnel, want.look)
	outs(t, what, e.Tunnel, strings.ReplaceAll(want.out, run(1, 16), run(25, 16)))
	outs(t, what, e.Tunnel)
}

func TestP2104Sccrq(t *testing.T) {
	for _, c := range []Config{config(), bare()} {
		for _, id := range []int{1, 2, 5, 9, 255, 256, 258, 32768, 65535} {
			for _, name := range []string{"", "f", "far", "near", "\x00\xff", strings.Repeat("\xff", 1000)} {
				asking(t, "Sccrq", c, kind(1)+about(name, id, 4)+dares(c), replies(c, id, name, "?"))
			}
		}
		for _, name := range []string{"", "far"} {
			for _, challenge := range []string{"", asks("?")} { // the id is looked at first
				asking(t, "an id of 0", c, kind(1)+about(name, 0, 4)+challenge, ends(0, name, 2))
			}
		}
	}
}

// Without a window, with values more, in another order, not Must, doubled: the first one counts.
func TestP2104SccrqOfOthers(t *testing.T) {
	for _, c := range []Config{config(), bare()} {
		whole := must(2, "\x01\x00") + must(3, "\x00\x00\x00\x03") + must(7, "far") + must(9, "\x00\x09")
		good := replies(c, 9, "far", "?")
		for what, values := range map[string]string{
			"no window":       whole + dares(c),
			"another version": must(2, "\xff\xff") + must(3, "\xff\xff\xff\xff") + must(7, "far") + must(9, "\x00\x09") + dares(c),
			"another order":   dares(c) + must(9, "\x00\x09") + must(7, "far") + must(3, "1234") + must(2, "12"),
			"not Must":        strings.ReplaceAll(whole+dares(c), "\x80", "\x00"),
			"unknown ones":    byhand.Value(0, 0, 99, "x") + byhand.Value(0, 9, 9, "\x00\x07") + whole + byhand.Value(0, 9, 7, "x") + dares(c),
			"doubled ones":    whole + dares(c) + must(7, "other") + must(9, "\x00\x07") + strings.ReplaceAll(dares(c), "?", "!"),
			"a response":      whole + dares(c) + must(13, run(1, 16)),
			"a result":        whole + dares(c) + must(1, "\x00\x01"),
		} {
			asking(t, what, c, kind(1)+values, good)
		}
		asking(t, "doubled, the first one 0", c, kind(1)+must(9, "\x00\x00")+whole+dares(c), ends(0, "far", 2))
		asking(t, "of another vendor alone", c, kind(1)+must(2, "12")+must(3, "1234")+must(7, "far")+byhand.Value(0, 9, 9, "\x00\x09")+dares(c), ends(0, "", 2))
	}
}

// Challenges of all lengths; with a secret there must be one, without one none.
func TestP2104SccrqChallenge(t *testing.T) {
	for _, challenge := range []string{"", "?", "\x00", run(0, 15), run(0, 16), run(0, 17), strings.Repeat("c", 1000)} {
		asking(t, "a challenge", config(), sccrq(asks(challenge)), replies(config(), 9, "far", challenge))
		asking(t, "the first of two", config(), sccrq(asks(challenge), asks("!")), replies(config(), 9, "far", challenge))
		asking(t, "a challenge to one without a secret", bare(), sccrq(asks(challenge)), ends(9, "far", 4))
		asking(t, "not Must", bare(), sccrq(byhand.Value(0, 0, 11, challenge)), ends(9, "far", 4))
	}
	asking(t, "no challenge", config(), sccrq(), ends(9, "far", 4))
	asking(t, "one of another vendor", config(), sccrq(byhand.Value(0, 9, 11, "?")), ends(9, "far", 4))
	asking(t, "a response alone", config(), sccrq(must(13, run(1, 16))), ends(9, "far", 4))
	asking(t, "one of another vendor", bare(), sccrq(byhand.Value(0, 9, 11, "?")), replies(bare(), 9, "far", ""))
}

// Of another Secret there is another response.
func TestP2104SccrqSecrets(t *testing.T) {
	for _, secret := range []string{"t", "\x00", strings.Repeat("s", 60)} {
		c := with(func(c *Config) { c.Secret = secret })
		asking(t, "a secret", c, sccrq(asks("?")), replies(c, 9, "far", "?"))
	}
}

// A window of 1 to 64 is the channel's; another one says nothing, and the own one stays.
func TestP2104Windows(t *testing.T) {
	for window, fly := range map[int]int{0: 4, 1: 1, 2: 2, 3: 3, 4: 4, 5: 5, 39: 39, 64: 40, 65: 4, 256: 4, 65535: 4, -1: 4} {
		values := must(2, "12") + must(3, "1234") + must(7, "far") + must(9, "\x00\x09")
		if window >= 0 {
			values += must(10, byhand.Word(window)) + must(10, "\x00\x02")
		}
		c := with(func(c *Config) { c.Secret, c.Queue = "", 40 })
		asked := idle(t, c)
		asked.hears(kind(1) + values)
		asked.drains()
		asked.hears(scccn())
		opened := waitReply(t, c)
		opened.hears(kind(2) + values)
		yielded := waitReply(t, c)
		takes(t, "a window", yielded.Tunnel, byhand.Ctl(0, 0, 0, 0, kind(1)+values+tied(run(0, 8))))
		yielded.ns, yielded.nr = 1, 0
		yielded.drains()
		yielded.hears(scccn())
		for _, e := range []*end{asked, opened, yielded} {
			e.drains()
			for range 1800 { // the room grows up to the window
				e.Send(1, nil)
				e.Out()
				e.nr++
				e.Take(e.says(""))
			}
			for range 40 {
				e.Send(1, nil)
			}
			if got := len(e.Out()); got != fly {
				t.Errorf("a window of %d: %d fly, not %d", window, got, fly)
			}
			is(t, "a window", e.Tunnel, look{Live, 5, 9, "far", fly})
		}
	}
}

// rival tells a Sccrq of one that opened, too.
func rival(c Config, tie string) string { return sccrq(dares(c), tied(tie)) }

// tiesOf makes an end that opened with some tie.
func tiesOf(t *testing.T, c Config, tie string) *end {
	t.Helper()
	var draws []int
	for i := range len(tie) {
		draws = append(draws, int(tie[i]))
	}
	e := &end{Tunnel: made(t, c, append(draws, count(1, 50)...)...)}
	e.Open()
	e.drains()
	return e
}

// Of each two ties the lower one's Sccrq counts: as numbers without a sign, to the first bit and the last.
func TestP2104Ties(t *testing.T) {
	all := []string{
		"\x00\x00\x00\x00\x00\x00\x00\x00", "\x00\x00\x00\x00\x00\x00\x00\x01", "\x00\x00\x00\x00\x00\x00\x00\xff",
		"\x00\x00\x00\x00\x00\x00\x01\x00", "\x00\x00\x00\x00\x80\x00\x00\x00", "\x00\x00\x00\x01\x00\x00\x00\x00",
		"\x00\x01\x02\x03\x04\x05\x06\x07", "\x7f\xff\xff\xff\xff\xff\xff\xfe", "\x7f\xff\xff\xff\xff\xff\xff\xff",
		"\x80\x00\x00\x00\x00\x00\x00\x00", "\x80\x01\x02\x03\x04\x05\x06\x07", "\xff\x00\x00\x00\x00\x00\x00\x00",
		"\xff\xff\xff\xff\xff\xff\xff\xfe", "\xff\xff\xff\xff\xff\xff\xff\xff",
	}
	for _, c := range []Config{config(), bare()} {
		for i, mine := range all {
			for j, theirs := range all {
				e := tiesOf(t, c, mine)
				takes(t, "a tie", e.Tunnel, byhand.Ctl(0, 0, 0, 0, rival(c, theirs)))
				switch {
				case j < i:
					is(t, "the lower one", e.Tunnel, look{WaitConn, 5, 9, "far", 9})
					if l := e.Out(); len(l) != 1 || l[0][:12] != byhand.Ctl(9, 0, 0, 1, "")[:2]+byhand.Words(len(l[0]), 9, 0, 0, 1) {
						t.Errorf("the lower one: %x", l)
					}
				case j > i:
					is(t, "the greater one", e.Tunnel, look{WaitReply, 5, 0, "", 10})
					outs(t, "the greater one", e.Tunnel)
				default:
					is(t, "the same", e.Tunnel, look{Dead, 5, 0, "", 0})
				}
				outs(t, "a tie", e.Tunnel)
			}
		}
	}
}

// Ties that can't be held against each other say nothing, nor does one of another Ns.
func TestP2104TiesOfNoUse(t *testing.T) {
	for _, c := range []Config{config(), bare()} {
		own := run(1, 8)
		for what, values := range map[string]string{
			"none":                      "",
			"none, and not whole":       must(99, ""),
			"of another vendor":         byhand.Value(0, 9, 5, run(0, 8)),
			"of no byte":                tied(""),
			"of 7 bytes":                tied(run(0, 7)),
			"of 9 bytes":                tied(run(0, 9)),
			"of 16 bytes":               tied(run(0, 16)),
			"of 7 bytes, then one of 8": tied(run(0, 7)) + tied(run(0, 8)),
			"of 9, the own one first":   tied(own + "\x00"),
			"of 7, the own one cut":     tied(own[:7]),
			"a greater one first":       tied(run(2, 8)) + tied(run(0, 8)),
			"a greater, not whole":      tied(run(2, 8)) + must(99, ""),
		} {
			e := waitReply(t, c)
			takes(t, what, e.Tunnel, byhand.Ctl(0, 0, 0, 0, sccrq(dares(c), values)))
			takes(t, what, e.Tunnel, byhand.Ctl(5, 0, 0, 1, sccrq(dares(c), values)))
			is(t, what, e.Tunnel, look{WaitReply, 5, 0, "", 10})
			same(t, what, start{look: look{WaitReply, 5, 0, "", 10}}, e)
		}
		for _, ns := range []int{1, 2, 255, 256, 32768, 65535} {
			for _, tie := range []string{run(0, 8), own, run(2, 8)} {
				e := waitReply(t, c)
				takes(t, "another Ns", e.Tunnel, byhand.Ctl(0, 0, ns, 0, rival(c, tie)))
				takes(t, "another Ns", e.Tunnel, byhand.Ctl(5, 0, ns, 1, rival(c, tie)))
				same(t, "another Ns", start{look: look{WaitReply, 5, 0, "", 10}}, e)
			}
		}
	}
}

// The same tie: Dead, without a message, also where something waits, is owed, or is not whole.
func TestP2104TheSameTie(t *testing.T) {
	for _, c := range []Config{config(), bare()} {
		for _, values := range []string{rival(c, run(1, 8)), kind(1) + tied(run(1, 8)), sccrq(dares(c), tied(run(1, 8)), tied(run(0, 8))), sccrq(tied(run(1, 8)), must(99, ""))} {
			for _, id := range []int{0, 5} {
				e := waitReply(t, c)
				e.hears(kind(6))
				takes(t, "the same", e.Tunnel, byhand.Ctl(id, 0, 0, 1, values))
				is(t, "the same", e.Tunnel, look{Dead, 5, 0, "", 0})
				outs(t, "the same", e.Tunnel)
			}
		}
		e := idle(t, c)
		e.Open()
		takes(t, "the same, ahead of Out", e.Tunnel, byhand.Ctl(0, 0, 0, 0, rival(c, run(1, 8))))
		outs(t, "the same, ahead of Out", e.Tunnel)
		is(t, "the same, ahead of Out", e.Tunnel, look{Dead, 5, 0, "", 0})
	}
}

// A lower tie's Sccrq is looked at as in Idle: by msg.Check first.
func TestP2104LowerTieNotWhole(t *testing.T) {
	for _, c := range []Config{config(), bare()} {
		for _, values := range bads() {
			if !strings.HasPrefix(values, kind(1)) {
				continue
			}
			e := waitReply(t, c)
			takes(t, "not whole", e.Tunnel, byhand.Ctl(0, 0, 0, 1, values+tied(run(0, 8))))
			is(t, "not whole", e.Tunnel, look{Dead, 5, 0, "", 0})
			outs(t, "not whole", e.Tunnel, byhand.Ctl(0, 0, 0, 1, stop(5, 2)))
			outs(t, "not whole", e.Tunnel)
		}
	}
}

// With a lower tie the channel is a new one: of what the old one had nothing is left.
func TestP2104LowerTieNewChannel(t *testing.T) {
	e := idle(t, bare())
	e.Open() // waits
	e.hears(kind(6))
	e.hears(kind(6)) // the next one to come would be 2
	takes(t, "a new channel", e.Tunnel, byhand.Ctl(0, 0, 0, 0, rival(bare(), run(0, 8))))
	is(t, "a new channel", e.Tunnel, look{WaitConn, 5, 9, "far", 9})
	outs(t, "a new channel", e.Tunnel, replies(bare(), 9, "far", "").out)

	e = idle(t, bare())
	e.Open()
	e.Out() // flies
	ticks(e.Tunnel, 3+6+11)
	takes(t, "tries and ticks", e.Tunnel, byhand.Ctl(0, 0, 0, 0, rival(bare(), run(0, 8))))
	outs(t, "tries and ticks", e.Tunnel, replies(bare(), 9, "far", "").out)
	ticks(e.Tunnel, 2)
	outs(t, "tries and ticks", e.Tunnel)
	e.Tick()
	outs(t, "tries and ticks", e.Tunnel, replies(bare(), 9, "far", "").out)

	// And it goes on from there: the first number to come is 1 now, what is acked is Sccrp.
	takes(t, "Scccn", e.Tunnel, byhand.Ctl(5, 0, 1, 1, scccn()))
	is(t, "Scccn", e.Tunnel, look{Live, 5, 9, "far", 10})
	outs(t, "Scccn", e.Tunnel, byhand.Ctl(9, 0, 1, 2, ""))
}

// A hidden value counts as one that is not.
func TestP2104Hidden(t *testing.T) {
	l := msg.Make(1, api.Avp{Must: true, Type: 36, Value: "vector"}, avp.Num(2, 256, 2), avp.Num(3, 3, 4))
	for kind, value := range map[int]string{7: "far", 9: "\x00\x09", 10: "\x00\x02", 11: "?"} {
		l = append(l, api.Avp{Must: true, Hidden: true, Type: kind, Value: value})
	}
	values, err := avp.Put(l, "s")
	if err != api.OK {
		t.Fatal(err)
	}
	asking(t, "hidden", config(), values, replies(config(), 9, "far", "?"))
	for _, c := range []Config{bare(), with(func(c *Config) { c.Secret = "t" })} {
		e := idle(t, c)
		takes(t, "hidden by another secret", e.Tunnel, byhand.Ctl(0, 0, 0, 0, values))
		is(t, "hidden by another secret", e.Tunnel, look{Idle, 5, 0, "", 10})
		outs(t, "hidden by another secret", e.Tunnel)
	}
}

// replying holds what a Sccrp leads to in WaitReply, where Sccrq said run(9, 16).
func replying(t *testing.T, what string, c Config, values string, want answer) {
	t.Helper()
	e := waitReply(t, c)
	if told := e.hears(values); len(told) > 0 {
		t.Errorf("%s: %v is told", what, told)
	}
	is(t, what, e.Tunnel, want.look)
	outs(t, what, e.Tunnel, want.out)
	outs(t, what, e.Tunnel)
}

// connects tells the answer to a good Sccrp.
func connects(c Config, id int, name, challenge string) answer {
	out := kind(3)
	if c.Secret != "" {
		out += answers(3, c.Secret, challenge)
	}
	return answer{look{Live, 5, id, name, 9}, byhand.Ctl(id, 0, 1, 1, out)}
}

// quits tells the answer to a bad one.
func quits(id int, name string, code int) answer {
	return answer{look{Dead, 5, id, name, 0}, byhand.Ctl(id, 0, 1, 1, stop(5, code))}
}

func TestP2104Sccrp(t *testing.T) {
	for _, c := range []Config{config(), bare()} {
		knows := knows(c, 2, run(9, 16))
		for _, id := range []int{1, 2, 5, 9, 255, 256, 258, 32768, 65535} {
			for _, name := range []string{"", "far", "near", strings.Repeat("\xff", 1000)} {
				replying(t, "Sccrp", c, kind(2)+about(name, id, 4)+knows+dares(c), connects(c, id, name, "?"))
			}
		}
		replying(t, "another order", c, kind(2)+dares(c)+knows+about("far", 9, 4), connects(c, 9, "far", "?"))
		replying(t, "with a tie", c, sccrp(tied(run(0, 8)), knows, dares(c)), connects(c, 9, "far", "?"))
		replying(t, "an id of 0", c, kind(2)+about("far", 0, 4)+knows+dares(c), quits(0, "far", 2))
		replying(t, "an id of 0, and no answer", c, kind(2)+about("far", 0, 4), quits(0, "far", 2))
		replying(t, "an id of 0, a wrong answer", c, kind(2)+about("far", 0, 4)+must(13, run(0, 16))+asks("?"), quits(0, "far", 2))
	}
}

func TestP2104SccrpWithASecret(t *testing.T) {
	c := config()
	good := answers(2, "s", run(9, 16))
	for _, challenge := range []string{"", "?", run(0, 16), strings.Repeat("c", 1000)} {
		replying(t, "right", c, sccrp(good, asks(challenge)), connects(c, 9, "far", challenge))
		replying(t, "right, the first of two", c, sccrp(good, must(13, run(0, 16)), asks(challenge), asks("!")), connects(c, 9, "far", challenge))
	}
	no := quits(9, "far", 4)
	for what, values := range map[string]string{
		"none":                         "",
		"no answer":                    asks("?"),
		"no challenge":                 good,
		"another secret":               answers(2, "t", run(9, 16)) + asks("?"),
		"no secret":                    answers(2, "", run(9, 16)) + asks("?"),
		"the tie's answer":             answers(2, "s", run(1, 8)) + asks("?"),
		"another challenge's":          answers(2, "s", run(9, 15)) + asks("?"),
		"the answer of Scccn":          answers(3, "s", run(9, 16)) + asks("?"),
		"the answer of Sccrq":          answers(1, "s", run(9, 16)) + asks("?"),
		"noughts":                      must(13, strings.Repeat("\x00", 16)) + asks("?"),
		"a wrong one first":            must(13, run(0, 16)) + good + asks("?"),
		"that of another vendor":       byhand.Value(0, 9, 13, good[6:]) + asks("?"),
		"a challenge of another alone": good + byhand.Value(0, 9, 11, "?"),
	} {
		replying(t, what, c, sccrp(values), no)
	}
	for i := range 16 {
		b := []byte(good)
		b[6+i] ^= 1 << (i % 8)
		replying(t, "one bit else", c, sccrp(string(b), asks("?")), no)
	}
}

func TestP2104SccrpWithoutASecret(t *testing.T) {
	no := quits(9, "far", 4)
	for what, values := range map[string]string{
		"a challenge":          asks("?"),
		"an empty one":         asks(""),
		"an answer":            must(13, run(0, 16)),
		"that of no secret":    answers(2, "", ""),
		"both":                 asks("?") + answers(2, "", ""),
		"both, not Must":       byhand.Value(0, 0, 11, "?") + byhand.Value(0, 0, 13, run(0, 16)),
		"an answer, not Must":  byhand.Value(0, 0, 13, run(0, 16)),
		"a challenge not Must": byhand.Value(0, 0, 11, ""),
	} {
		replying(t, what, bare(), sccrp(values), no)
	}
	replying(t, "those of another vendor", bare(), sccrp(byhand.Value(0, 9, 11, "?"), byhand.Value(0, 9, 13, "!")), connects(bare(), 9, "far", ""))
}

// One that comes ahead of the Sccrq's ack acks it; one that comes ahead of Out finds the queue's room.
func TestP2104SccrpEarly(t *testing.T) {
	e := idle(t, with(func(c *Config) { c.Secret, c.Queue = "", 2 }))
	e.Open()
	takes(t, "ahead of Out", e.Tunnel, byhand.Ctl(5, 0, 0, 0, sccrp()))
	is(t, "ahead of Out", e.Tunnel, look{Live, 5, 9, "far", 0})
	outs(t, "ahead of Out", e.Tunnel, byhand.Ctl(9, 0, 0, 1, kind(1)+about("near", 5, 4)+tied(run(1, 8))))

	e = idle(t, with(func(c *Config) { c.Secret, c.Queue = "", 1 }))
	e.Open()
	takes(t, "no room for Scccn", e.Tunnel, byhand.Ctl(5, 0, 0, 0, sccrp()))
	is(t, "no room for Scccn", e.Tunnel, look{Live, 5, 9, "far", 0})
	outs(t, "no room for Scccn", e.Tunnel, byhand.Ctl(9, 0, 0, 1, kind(1)+about("near", 5, 4)+tied(run(1, 8))))
	is(t, "no room for Scccn", e.Tunnel, look{Live, 5, 9, "far", 1})
}

func TestP2104Scccn(t *testing.T) {
	good := answers(3, "s", run(1, 16))
	connecting := func(what string, c Config, values string, live bool) {
		t.Helper()
		e := waitConn(t, c)
		e.hears(scccn(values))
		if live {
			is(t, what, e.Tunnel, look{Live, 5, 9, "far", 10})
			outs(t, what, e.Tunnel, byhand.Ctl(9, 0, 1, 2, ""))
		} else {
			is(t, what, e.Tunnel, look{Dead, 5, 9, "far", 0})
			outs(t, what, e.Tunnel, byhand.Ctl(9, 0, 1, 2, stop(5, 4)))
		}
		outs(t, what, e.Tunnel)
	}
	for _, values := range []string{"", asks("?"), must(7, "other") + must(9, "\x00\x07") + must(10, "\x00\x01"), must(9, "\x00\x00")} {
		connecting("right", config(), good+values, true)
		connecting("right, the first of two", config(), good+must(13, run(0, 16))+values, true)
		connecting("without a secret", bare(), values, true)
		connecting("without a secret, an answer", bare(), must(13, run(0, 16))+values, true)
		connecting("no answer", config(), values, false)
		for what, answer := range map[string]string{
			"another secret":         answers(3, "t", run(1, 16)),
			"no secret":              answers(3, "", run(1, 16)),
			"another challenge's":    answers(3, "s", run(2, 16)),
			"the peer's challenge's": answers(3, "s", "?"),
			"the answer of Sccrp":    answers(2, "s", run(1, 16)),
			"noughts":                must(13, strings.Repeat("\x00", 16)),
			"a wrong one first":      must(13, run(0, 16)) + good,
			"that of another vendor": byhand.Value(0, 9, 13, good[6:]),
		} {
			connecting(what, config(), answer+values, false)
		}
	}
	for i := range 16 {
		b := []byte(good)
		b[6+i] ^= 1 << (i % 8)
		connecting("one bit else", config(), string(b), false)
	}
}

// Behind a lower tie it is the challenge of the Sccrp that counts, not that of the Sccrq that was dropped.
func TestP2104ScccnBehindATie(t *testing.T) {
	for challenge, state := range map[string]int{run(25, 16): Live, run(9, 16): Dead, run(1, 16): Dead} {
		e := waitReply(t, config())
		takes(t, "a tie", e.Tunnel, byhand.Ctl(0, 0, 0, 0, rival(config(), run(0, 8))))
		takes(t, "a tie", e.Tunnel, byhand.Ctl(5, 0, 1, 0, scccn(answers(3, "s", challenge))))
		if e.State() != state {
			t.Errorf("the state is %d, not %d", e.State(), state)
		}
	}
}
