package neg

import (
	"math"
	"math/rand/v2"
	"slices"
	"strings"
	"testing"

	"tollgate/api"
)

// P1101.

// unit is the rule of the document's examples.
func unit() api.Rule { return api.Rule{Type: 1, Len: 2, Min: 64, Max: 1492, Suggest: "\x05\xd4"} }

func opt(kind int, value string) api.Option { return api.Option{Type: kind, Value: value} }

// judged holds what Judge answers against what it should.
func judged(t *testing.T, what string, rules []api.Rule, l []api.Option, code int, want ...api.Option) {
	t.Helper()
	if got, out := Judge(rules, l); got != code || !slices.Equal(out, want) {
		t.Errorf("%s: Judge = %d, %v, not %d, %v", what, got, out, code, want)
	}
}

func TestP1101Examples(t *testing.T) {
	rules := []api.Rule{unit()}
	judged(t, "2000", rules, []api.Option{opt(1, "\x07\xd0")}, api.ConfNak, opt(1, "\x05\xd4"))
	judged(t, "100 and a 9", rules, []api.Option{opt(1, "\x00\x64"), opt(9, "")}, api.ConfRej, opt(9, ""))
	judged(t, "none", rules, nil, api.ConfAck)
}

func TestP1101Fits(t *testing.T) {
	noughts := func(n int) string { return strings.Repeat("\x00", n) }
	seven := "\x01\x02\x03\x04\x05\x06\x07" // 283686952306183
	for _, x := range []struct {
		what          string
		len, min, max int
		value         string
		want          bool
	}{
		{"Len 0", 0, 0, 0, "", true},
		{"Len 0, 0 being below Min", 0, 1, 5, "", false},
		{"Len 0, 0 being above Max", 0, -5, -1, "", false},
		{"Len 0, a byte more", 0, 0, 0, "\x00", false},
		{"Len -1", -1, 0, 0, "", false},
		{"Len -1, a byte", -1, 0, 255, "\x01", false},
		{"the least Len", math.MinInt, 0, 0, "", false},
		{"the greatest Len", math.MaxInt, 0, 0, "", false},
		{"Len 1, a byte fewer", 1, 0, 255, "", false},
		{"Len 1", 1, 0, 255, "\xff", true},
		{"Len 1, a byte more", 1, 0, 255, "\x00\x01", false},
		{"at Min", 2, 64, 1492, "\x00\x40", true},
		{"below Min", 2, 64, 1492, "\x00\x3f", false},
		{"at Max", 2, 64, 1492, "\x05\xd4", true},
		{"above Max", 2, 64, 1492, "\x05\xd5", false},
		{"a byte fewer", 2, 64, 1492, "\x40", false},
		{"a byte more", 2, 64, 1492, "\x00\x00\x40", false},
		{"Min alone", 1, 7, 7, "\x07", true},
		{"below Min alone", 1, 7, 7, "\x06", false},
		{"above Min alone", 1, 7, 7, "\x08", false},
		{"Min above Max", 1, 8, 7, "\x07", false},
		{"Min above Max, at Min", 1, 8, 7, "\x08", false},
		{"Min below 0", 1, math.MinInt, 0, "\x00", true},
		{"Max as great as may be", 1, 0, math.MaxInt, "\xff", true},
		{"Min as great as may be", 7, math.MaxInt, math.MaxInt, strings.Repeat("\xff", 7), false},
		{"Len 6", 6, 1108152157446, 1108152157446, seven[:6], true},
		{"Len 7", 7, 283686952306183, 283686952306183, seven, true},
		{"Len 7, the last byte counts", 7, 283686952306183, 283686952306183, seven[:6] + "\x08", false},
		{"Len 7, a byte fewer", 7, 0, math.MaxInt, seven[:6], false},
		{"Len 7, a byte more", 7, 0, math.MaxInt, seven + "\x00", false},
		{"Len 7, all that there are", 7, 1<<56 - 1, 1<<56 - 1, strings.Repeat("\xff", 7), true},
		{"Len 8", 8, 283686952306183, 283686952306183, seven + "\x08", true},
		{"Len 8, the eighth byte does not count", 8, 283686952306183, 283686952306183, seven + "\xff", true},
		{"Len 8, the seventh does", 8, 283686952306183, 283686952306183, seven[:6] + "\x08\x00", false},
		{"Len 8, a byte fewer", 8, 0, math.MaxInt, seven, false},
		{"Len 8, a byte more", 8, 0, math.MaxInt, seven + "\x00\x00", false},
		{"Len 8, below Min", 8, 1, 9, noughts(7) + "\x05", false},
		{"Len 9", 9, 1, 1, noughts(6) + "\x01\xff\xff", true},
		{"Len 9, the last bytes alone", 9, 1, 1, noughts(7) + "\xff\xff", false},
		{"Len 253", 253, 5, 5, noughts(6) + "\x05" + strings.Repeat("x", 246), true},
		{"Len 1000", 1000, 0, 0, noughts(7) + strings.Repeat("x", 993), true},
		{"Len 1000, above Max", 1000, 0, 0, noughts(6) + "\x01" + strings.Repeat("x", 993), false},
	} {
		r := api.Rule{Type: 3, Len: x.len, Min: x.min, Max: x.max, Suggest: "says nothing here"}
		if got := Fits(r, x.value); got != x.want {
			t.Errorf("%s: Fits = %v", x.what, got)
		}
	}
}

func TestP1101FitsEveryValueOfTwoBytes(t *testing.T) {
	for v := range 65536 {
		b := string([]byte{byte(v / 256), byte(v % 256)})
		if got := Fits(unit(), b); got != (64 <= v && v <= 1492) {
			t.Fatalf("Fits of %d = %v", v, got)
		}
	}
}

func TestP1101Judge(t *testing.T) {
	rules := []api.Rule{
		unit(),
		{Type: 1, Len: 0, Max: 5, Suggest: ""}, // never looked at: one of its Type stands ahead of it
		{Type: 3, Len: 1, Min: 7, Max: 9, Suggest: "\x08"},
		{Type: 4, Len: 9, Min: 1, Max: 1, Suggest: "not asked whether it fits"},
		{Type: 0, Len: 0},
		{Type: -2, Len: 1, Max: 255, Suggest: "m"},
		{Type: 300, Len: 1, Max: 1, Suggest: "\x01"},
	}
	good, low, high, none := opt(1, "\x00\x64"), opt(1, "\x00\x3f"), opt(1, "\x05\xd5"), opt(1, "")
	eight := opt(3, "\x08")
	for _, x := range []struct {
		what string
		l    []api.Option
		code int
		want []api.Option
	}{
		{"nil", nil, api.ConfAck, nil},
		{"none", []api.Option{}, api.ConfAck, nil},
		{"a good one", []api.Option{good}, api.ConfAck, []api.Option{good}},
		{"two good ones", []api.Option{eight, good}, api.ConfAck, []api.Option{eight, good}},
		{"below", []api.Option{low}, api.ConfNak, []api.Option{opt(1, "\x05\xd4")}},
		{"above", []api.Option{high}, api.ConfNak, []api.Option{opt(1, "\x05\xd4")}},
		{"no bytes: the first rule of its Type holds, not the second", []api.Option{none}, api.ConfNak, []api.Option{opt(1, "\x05\xd4")}},
		{"a Suggest is told as it is", []api.Option{opt(4, "x")}, api.ConfNak, []api.Option{opt(4, "not asked whether it fits")}},
		{"of a good and a bad one the bad one", []api.Option{good, opt(3, "\x06")}, api.ConfNak, []api.Option{opt(3, "\x08")}},
		{"of a bad and a good one the bad one", []api.Option{low, eight}, api.ConfNak, []api.Option{opt(1, "\x05\xd4")}},
		{"bad ones in their order", []api.Option{opt(4, ""), opt(3, ""), low}, api.ConfNak, []api.Option{opt(4, "not asked whether it fits"), opt(3, "\x08"), opt(1, "\x05\xd4")}},
		{"no rule", []api.Option{opt(9, "x")}, api.ConfRej, []api.Option{opt(9, "x")}},
		{"no rule, no value", []api.Option{opt(9, "")}, api.ConfRej, []api.Option{opt(9, "")}},
		{"no rule, though in its low bits", []api.Option{opt(257, "\x00\x64")}, api.ConfRej, []api.Option{opt(257, "\x00\x64")}},
		{"no rule beside a good one", []api.Option{good, opt(9, "x")}, api.ConfRej, []api.Option{opt(9, "x")}},
		{"no rule beside a bad one: that is not spoken of", []api.Option{low, opt(9, "x"), opt(3, "")}, api.ConfRej, []api.Option{opt(9, "x")}},
		{"several without a rule, in their order", []api.Option{opt(9, "x"), opt(8, "y"), none, opt(7, "")}, api.ConfRej, []api.Option{opt(9, "x"), opt(8, "y"), opt(7, "")}},
		{"twice", []api.Option{good, good}, api.ConfRej, []api.Option{good}},
		{"twice, the second one another", []api.Option{good, opt(1, "\x00\x65")}, api.ConfRej, []api.Option{opt(1, "\x00\x65")}},
		{"twice, the first one bad", []api.Option{low, good}, api.ConfRej, []api.Option{good}},
		{"twice, the second one bad", []api.Option{good, low}, api.ConfRej, []api.Option{low}},
		{"twice, with another between", []api.Option{good, eight, low}, api.ConfRej, []api.Option{low}},
		{"three times", []api.Option{good, low, high}, api.ConfRej, []api.Option{low, high}},
		{"twice without a rule: both", []api.Option{opt(9, "x"), opt(9, "z")}, api.ConfRej, []api.Option{opt(9, "x"), opt(9, "z")}},
		{"twice, and one without a rule between", []api.Option{good, opt(9, ""), good}, api.ConfRej, []api.Option{opt(9, ""), good}},
		{"Types that no packet has", []api.Option{opt(0, ""), opt(-2, "k"), opt(300, "\x00")}, api.ConfAck, []api.Option{opt(0, ""), opt(-2, "k"), opt(300, "\x00")}},
		{"such one that does not fit", []api.Option{opt(-2, "kk"), opt(300, "\x02")}, api.ConfNak, []api.Option{opt(-2, "m"), opt(300, "\x01")}},
		{"the least Type", []api.Option{opt(math.MinInt, "")}, api.ConfRej, []api.Option{opt(math.MinInt, "")}},
	} {
		judged(t, x.what, rules, x.l, x.code, x.want...)
	}
}

func TestP1101JudgeWithoutRules(t *testing.T) {
	judged(t, "no rules, no options", nil, nil, api.ConfAck)
	judged(t, "no rules", nil, []api.Option{opt(1, "a"), opt(2, "")}, api.ConfRej, opt(1, "a"), opt(2, ""))
	judged(t, "an empty list of rules", []api.Rule{}, []api.Option{opt(0, "")}, api.ConfRej, opt(0, ""))
}

// More options than a packet has: Judge is not asked for less.
func TestP1101JudgeOfMany(t *testing.T) {
	var rules []api.Rule
	var l, bad, better []api.Option
	for i := range 500 {
		rules = append(rules, api.Rule{Type: i, Len: 1, Min: 1, Max: 9, Suggest: "\x05"})
		l, bad, better = append(l, opt(i, "\x09")), append(bad, opt(i, "\x00")), append(better, opt(i, "\x05"))
	}
	judged(t, "500 good ones", rules, l, api.ConfAck, l...)
	judged(t, "500 bad ones", rules, bad, api.ConfNak, better...)
	judged(t, "500 twice", rules, slices.Concat(l, bad), api.ConfRej, bad...)
}

// spoil changes a list and all its spare room.
func spoil(l []api.Option) {
	for i := range l[:cap(l)] {
		l[:cap(l)][i] = opt(-9, "spoilt")
	}
}

func TestP1101NothingIsShared(t *testing.T) {
	rules := []api.Rule{unit(), {Type: 3, Len: 1, Min: 7, Max: 9, Suggest: "\x08"}, {Type: 5, Len: 7}}[:2]
	room := []api.Option{opt(1, "\x00\x64"), opt(3, "\x07"), opt(9, ""), opt(1, ""), opt(3, "")}
	keptRules, kept := slices.Clone(rules[:3]), slices.Clone(room)
	for from := range len(room) {
		for to := from; to <= len(room); to++ {
			code, out := Judge(rules, room[from:to])
			want := slices.Clone(out)
			spoil(out)
			judged(t, "again", rules, room[from:to], code, want...)
			if !slices.Equal(room, kept) || !slices.Equal(rules[:3], keptRules) {
				t.Fatalf("Judge of %d to %d changed what it was given, or gave it away", from, to)
			}
		}
	}
}

// numberOf tells the number of up to 7 bytes by another way than the program's.
func numberOf(s string) int {
	if s == "" {
		return 0
	}
	return numberOf(s[:len(s)-1])*256 + int(s[len(s)-1])
}

// fitsByHand, judgeByHand tell what Fits and Judge should, by a second way.
func fitsByHand(r api.Rule, v string) bool {
	head := v
	if len(v) > 7 {
		head = v[:7]
	}
	n := numberOf(head)
	return r.Len == len(v) && !(n < r.Min) && !(r.Max < n)
}

func judgeByHand(rules []api.Rule, l []api.Option) (int, []api.Option) {
	ruleOf := func(kind int) int {
		return slices.IndexFunc(rules, func(r api.Rule) bool { return r.Type == kind })
	}
	var rej, nak []api.Option
	for i, o := range l {
		first := slices.IndexFunc(l, func(x api.Option) bool { return x.Type == o.Type })
		switch r := ruleOf(o.Type); {
		case r < 0 || first != i:
			rej = append(rej, o)
		case !fitsByHand(rules[r], o.Value):
			nak = append(nak, opt(o.Type, rules[r].Suggest))
		}
	}
	switch {
	case rej != nil:
		return api.ConfRej, rej
	case nak != nil:
		return api.ConfNak, nak
	}
	return api.ConfAck, l
}

func TestP1101Any(t *testing.T) {
	r := rand.New(rand.NewPCG(11, 1))
	bytes := func(n int) string {
		b := make([]byte, r.IntN(n))
		for i := range b {
			b[i] = byte(r.IntN(4))
		}
		return string(b)
	}
	seen := map[int]int{}
	for range 30000 {
		rules := make([]api.Rule, r.IntN(6))
		for i := range rules {
			rules[i] = api.Rule{Type: r.IntN(6), Len: r.IntN(3), Min: r.IntN(3), Max: r.IntN(900), Suggest: bytes(4)}
		}
		l := make([]api.Option, r.IntN(4))
		for i := range l {
			l[i] = opt(r.IntN(6), bytes(4))
		}
		code, want := judgeByHand(rules, l)
		judged(t, "any", rules, l, code, want...)
		seen[code]++
		wide := api.Rule{Len: 5 + r.IntN(6), Min: r.IntN(1 << 20), Max: r.IntN(1 << 57)}
		if v := bytes(12); Fits(wide, v) != fitsByHand(wide, v) {
			t.Fatalf("Fits(%+v, %q) = %v", wide, v, Fits(wide, v))
		}
		if t.Failed() {
			t.Fatalf("rules %+v, options %v", rules, l)
		}
	}
	for _, code := range []int{api.ConfAck, api.ConfNak, api.ConfRej} {
		if seen[code] < 100 {
			t.Errorf("%d was answered only %d times", code, seen[code])
		}
	}
}
