package pap

import (
	"math"
	"strings"
	"testing"

	"tollgate/api"
)

// P1301, and what the tests of all promises share.

// run tells a text of so many bytes, no two neighbours of which are alike, from a byte on.
func run(n int, from byte) string {
	b := make([]byte, n)
	for i := range b {
		b[i] = from + byte(i)*7
	}
	return string(b)
}

// texts are those that have room, the bytes of lengths among them.
func texts() []string {
	return []string{"", "a", "\x00", "\x01", "\x3c", "\x3d", "\xff", "\x00\x00", "\x01a", "name", "n\u00e4me", "\xc3", run(59, 0), run(60, 0), run(60, 200)}
}

// longs are those that have none.
func longs() []string {
	return []string{run(61, 0), run(62, 1), run(255, 2), run(256, 3), run(257, 4), run(256+60, 5), run(65536, 6)}
}

// head tells a length as its byte.
func head(n int) string { return string([]byte{byte(n)}) }

type pair struct {
	name, secret string
	err          api.Errno
}

func getReq(data string) pair {
	name, secret, err := GetReq(data)
	return pair{name, secret, err}
}

type said struct {
	text string
	err  api.Errno
}

func getSay(data string) said {
	text, err := GetSay(data)
	return said{text, err}
}

func putReq(name, secret string) said {
	b, err := PutReq(name, secret)
	return said{b, err}
}

func putSay(text string) said {
	b, err := PutSay(text)
	return said{b, err}
}

func TestP1301Examples(t *testing.T) {
	if got := putReq("a", "bc"); got != (said{"\x01a\x02bc", api.OK}) {
		t.Errorf("PutReq = %v", got)
	}
	if got := getReq("\x01a"); got != (pair{err: api.ErrShort}) {
		t.Errorf("GetReq of a name alone = %v", got)
	}
	if got := getReq("\x01a\x00x"); got != (pair{err: api.ErrForm}) {
		t.Errorf("GetReq of a byte more = %v", got)
	}
}

func TestP1301PutReq(t *testing.T) {
	for _, name := range texts() {
		for _, secret := range texts() {
			want := said{head(len(name)) + name + head(len(secret)) + secret, api.OK}
			if got := putReq(name, secret); got != want {
				t.Errorf("PutReq(%q, %q) = %#v", name, secret, got)
			}
			if got := getReq(want.text); got != (pair{name, secret, api.OK}) {
				t.Errorf("GetReq(%q) = %#v", want.text, got)
			}
		}
	}
}

func TestP1301PutReqLong(t *testing.T) {
	for _, long := range longs() {
		for _, text := range append(texts(), longs()...) {
			for _, got := range []said{putReq(long, text), putReq(text, long)} {
				if got != (said{err: api.ErrLong}) {
					t.Errorf("PutReq of %d bytes beside %d = %#v", len(long), len(text), got)
				}
			}
		}
	}
}

func TestP1301PutSay(t *testing.T) {
	for _, text := range texts() {
		want := said{head(len(text)) + text, api.OK}
		if got := putSay(text); got != want {
			t.Errorf("PutSay(%q) = %#v", text, got)
		}
		if got := getSay(want.text); got != (said{text, api.OK}) {
			t.Errorf("GetSay(%q) = %#v", want.text, got)
		}
	}
	for _, long := range longs() {
		if got := putSay(long); got != (said{err: api.ErrLong}) {
			t.Errorf("PutSay of %d bytes = %#v", len(long), got)
		}
	}
}

// Each piece from the front on is too short, and a byte more is no such thing, whatever byte it is.
func TestP1301CutAndMore(t *testing.T) {
	for _, name := range texts() {
		for _, secret := range texts() {
			b := putReq(name, secret).text
			for n := range b {
				if got := getReq(b[:n]); got != (pair{err: api.ErrShort}) {
					t.Errorf("GetReq(%q) = %#v", b[:n], got)
				}
			}
			for _, more := range append(texts()[1:], longs()...) {
				if got := getReq(b + more); got != (pair{err: api.ErrForm}) {
					t.Errorf("GetReq(%q) = %#v", b+more, got)
				}
			}
		}
		b := putSay(name).text
		for n := 1; n < len(b); n++ {
			if got := getSay(b[:n]); got != (said{err: api.ErrShort}) {
				t.Errorf("GetSay(%q) = %#v", b[:n], got)
			}
		}
		for _, more := range append(texts()[1:], longs()...) {
			if got := getSay(b + more); got != (said{err: api.ErrForm}) {
				t.Errorf("GetSay(%q) = %#v", b+more, got)
			}
		}
	}
}

// No data is a text of none, but no name and no secret.
func TestP1301NoData(t *testing.T) {
	if got := getSay(""); got != (said{"", api.OK}) {
		t.Errorf("GetSay of no data = %v", got)
	}
	if got := getSay("\x00"); got != (said{"", api.OK}) {
		t.Errorf("GetSay of a length of 0 = %v", got)
	}
	if got := getReq(""); got != (pair{err: api.ErrShort}) {
		t.Errorf("GetReq of no data = %v", got)
	}
	if got := getReq("\x00"); got != (pair{err: api.ErrShort}) {
		t.Errorf("GetReq of a length of 0 = %v", got)
	}
	if got := getReq("\x00\x00"); got != (pair{}) {
		t.Errorf("GetReq of two lengths of 0 = %v", got)
	}
}

// wantOf tells what is to be told of a length with so many bytes behind it, where nothing else may stand there.
func wantOf(length, behind int) api.Errno {
	switch {
	case length > 60:
		return api.ErrLong
	case behind < length:
		return api.ErrShort
	case behind > length:
		return api.ErrForm
	}
	return api.OK
}

// Every length, with every count of bytes behind it: the length stands in front of its bytes, so that it is looked at first.
func TestP1301EveryLength(t *testing.T) {
	for length := range 256 {
		for behind := range 300 {
			text := run(behind, 9)
			b := head(length) + text
			want := wantOf(length, behind)
			good := ""
			if want == api.OK {
				good = text
			}
			if got := getSay(b); got != (said{good, want}) {
				t.Fatalf("GetSay of %d with %d bytes = %#v", length, behind, got)
			}
			for _, name := range []string{"", "u", run(60, 1)} {
				wanted := pair{err: want}
				if want == api.OK {
					wanted = pair{name: name, secret: text}
				}
				if got := getReq(head(len(name)) + name + b); got != wanted {
					t.Fatalf("GetReq of %q, %d with %d bytes = %#v", name, length, behind, got)
				}
			}
		}
	}
}

// The first that applies, from the front on: what the name is wrong in is told ahead of what the secret is, and ahead of bytes that are left.
func TestP1301WhichErrorFirst(t *testing.T) {
	for _, x := range []struct {
		what, data string
		want       api.Errno
	}{
		{"a long name, without its bytes", "\x3d", api.ErrLong},
		{"a long name, without some bytes", "\xff" + run(254, 0), api.ErrLong},
		{"a long name, and nothing behind it", "\x3d" + run(61, 0), api.ErrLong},
		{"a long name, and a secret", "\x3d" + run(61, 0) + "\x00", api.ErrLong},
		{"a long name, and a long secret", "\x3d" + run(61, 0) + "\x3d", api.ErrLong},
		{"a long name, and bytes that are left", "\x3d" + run(61, 0) + "\x00x", api.ErrLong},
		{"a short name", "\x3c" + run(59, 0), api.ErrShort},
		{"a short name, a long length among its bytes", "\x03\x3d\x3d", api.ErrShort},
		{"no secret", "\x3c" + run(60, 0), api.ErrShort},
		{"a long secret, without its bytes", "\x00\x3d", api.ErrLong},
		{"a long secret, with its bytes", "\x00\x3d" + run(61, 0), api.ErrLong},
		{"a long secret, and bytes that are left", "\x01a\x3d" + run(62, 0), api.ErrLong},
		{"a short secret", "\x00\x02x", api.ErrShort},
		{"bytes that are left", "\x00\x02xyz", api.ErrForm},
		{"a long length that is left", "\x00\x00\x3d", api.ErrForm},
		{"a text with its length that is left", "\x01a\x01b\x01c", api.ErrForm},
	} {
		if got := getReq(x.data); got != (pair{err: x.want}) {
			t.Errorf("%s: GetReq = %#v", x.what, got)
		}
	}
}

// What is told is the same each time, and a piece of some bytes is told as if it stood alone.
func TestP1301WhatStandsBehindAPiece(t *testing.T) {
	full := "\x02uv\x01p" + "\x01\x02\x03"
	for range 3 {
		if got := getReq(full[:5]); got != (pair{"uv", "p", api.OK}) {
			t.Errorf("GetReq = %#v", got)
		}
		if got := getReq(full[:4]); got != (pair{err: api.ErrShort}) {
			t.Errorf("GetReq = %#v", got)
		}
		if got := getSay(full[3:5]); got != (said{"p", api.OK}) {
			t.Errorf("GetSay = %#v", got)
		}
	}
}

func FuzzP1301Get(f *testing.F) {
	for _, s := range []string{"", "\x00", "\x01a\x02bc", "\x3d", "\x00\x3d", "\x00\x00\x00"} {
		f.Add(s)
	}
	f.Fuzz(func(t *testing.T, data string) {
		if got := getReq(data); got.err == api.OK && putReq(got.name, got.secret).text != data || got.err != api.OK && got != (pair{err: got.err}) {
			t.Errorf("GetReq(%q) = %#v", data, got)
		}
		if got := getSay(data); got.err == api.OK && data != "" && putSay(got.text).text != data || got.err != api.OK && got.text != "" {
			t.Errorf("GetSay(%q) = %#v", data, got)
		}
	})
}

// ends are ints that are far from all that is meant.
func ends() []int {
	return []int{math.MinInt, math.MinInt + 1, -1 << 32, -256, -255, 1 << 8, 1 << 16, 1 << 32, 1<<32 + 1, 1<<32 + 2, 1<<32 + 3, 1 << 62, math.MaxInt}
}

func req(id int, name, secret string) api.Packet {
	return api.Packet{Code: 1, Id: id, Data: head(len(name)) + name + head(len(secret)) + secret}
}

// says holds packets against what they should be; nil and an empty list mean the same.
func says(t *testing.T, what string, got []api.Packet, want ...api.Packet) {
	t.Helper()
	if len(got) != len(want) {
		t.Fatalf("%s: %#v, not %#v", what, got, want)
	}
	for i, p := range got {
		w := want[i]
		if p.Code != w.Code || p.Id != w.Id || p.Data != w.Data || len(p.Options) > 0 || len(w.Options) > 0 {
			t.Fatalf("%s: %#v, not %#v", what, got, want)
		}
	}
}

// spoil changes all of a list of packets, its spare room too.
func spoil(l []api.Packet) {
	for i := range l[:cap(l)] {
		l[:cap(l)][i] = api.Packet{Code: -9, Id: -9, Options: make([]api.Option, 1), Data: strings.Repeat("s", 9)}
	}
}
