package chap

import (
	"math"
	"strings"
	"testing"

	"tollgate/api"
)

// P1401, and what the tests of all promises share.

// run tells a text of so many bytes, no two neighbours of which are alike, from a byte on.
func run(n int, from byte) string {
	b := make([]byte, n)
	for i := range b {
		b[i] = from + byte(i)*7
	}
	return string(b)
}

// texts are those that have room, the bytes of lengths among them; the first one alone is empty.
func texts() []string {
	return []string{"", "a", "\x00", "\x01", "\x3c", "\x3d", "\xff", "\x00\x00", "\x01a", "name", "n\u00e4me", "\xc3", run(59, 0), run(60, 0), run(60, 200)}
}

// longs are those that have none.
func longs() []string {
	return []string{run(61, 0), run(62, 1), run(255, 2), run(256, 3), run(257, 4), run(256+60, 5), run(65536, 6)}
}

// noValues are those that no value may be.
func noValues() []string { return append(longs(), "") }

// noData are those that hold no value and no name.
func noData() []string {
	return []string{"", "\x00", "\x00n", "\x01", "\x02v", "\x3c" + run(59, 0), "\x3d", "\x3d" + run(61, 0), "\xff" + run(255, 0), "\x01v" + run(61, 0), "\x3c" + run(121, 0), run(1500, 61)}
}

// head tells a length as its byte.
func head(n int) string { return string([]byte{byte(n)}) }

type said struct {
	text string
	err  api.Errno
}

func putValue(value, name string) said {
	b, err := PutValue(value, name)
	return said{b, err}
}

type pair struct {
	value, name string
	err         api.Errno
}

func getValue(data string) pair {
	value, name, err := GetValue(data)
	return pair{value, name, err}
}

func TestP1401Examples(t *testing.T) {
	if got := putValue("v", "n"); got != (said{"\x01vn", api.OK}) {
		t.Errorf("PutValue = %#v", got)
	}
	if got := getValue(""); got != (pair{err: api.ErrShort}) {
		t.Errorf("GetValue of no byte = %#v", got)
	}
	if got := getValue("\x00"); got != (pair{err: api.ErrArg}) {
		t.Errorf("GetValue of a length of 0 = %#v", got)
	}
}

func TestP1401PutAndGet(t *testing.T) {
	for _, value := range texts()[1:] {
		for _, name := range texts() {
			want := said{head(len(value)) + value + name, api.OK}
			if got := putValue(value, name); got != want {
				t.Errorf("PutValue(%q, %q) = %#v", value, name, got)
			}
			if got := getValue(want.text); got != (pair{value, name, api.OK}) {
				t.Errorf("GetValue(%q) = %#v", want.text, got)
			}
		}
	}
}

func TestP1401PutEverySize(t *testing.T) {
	for size := range 130 {
		for long := range 130 {
			value, name := run(size, 3), run(long, 9)
			want := said{head(size) + value + name, api.OK}
			if size < 1 || size > 60 {
				want = said{err: api.ErrArg}
			} else if long > 60 {
				want = said{err: api.ErrLong}
			}
			if got := putValue(value, name); got != want {
				t.Errorf("PutValue of %d and %d bytes = %#v", size, long, got)
			}
		}
	}
}

// What is wrong in the value is told ahead of a name that is too long.
func TestP1401PutWrong(t *testing.T) {
	for _, value := range noValues() {
		for _, name := range append(texts(), longs()...) {
			if got := putValue(value, name); got != (said{err: api.ErrArg}) {
				t.Errorf("PutValue of %d and %d bytes = %#v", len(value), len(name), got)
			}
		}
	}
	for _, value := range texts()[1:] {
		for _, name := range longs() {
			if got := putValue(value, name); got != (said{err: api.ErrLong}) {
				t.Errorf("PutValue of %d and %d bytes = %#v", len(value), len(name), got)
			}
		}
	}
}

// wantOf tells the error of a length with so many bytes behind it.
func wantOf(length, behind int) api.Errno {
	switch {
	case length == 0 || length > 60:
		return api.ErrArg
	case behind < length:
		return api.ErrShort
	case behind > length+60:
		return api.ErrLong
	}
	return api.OK
}

// Every length, with every count of bytes behind it.
func TestP1401GetEveryLength(t *testing.T) {
	for length := range 256 {
		for behind := range 400 {
			text := run(behind, 9)
			want := pair{err: wantOf(length, behind)}
			if want.err == api.OK {
				want.value, want.name = text[:length], text[length:]
			}
			if got := getValue(head(length) + text); got != want {
				t.Fatalf("GetValue of %d with %d bytes = %#v", length, behind, got)
			}
		}
	}
}

func TestP1401WhichErrorFirst(t *testing.T) {
	for _, x := range []struct {
		what, data string
		want       api.Errno
	}{
		{"nothing", "", api.ErrShort},
		{"a length of 0, nothing behind it", "\x00", api.ErrArg},
		{"a length of 0, 60 bytes behind it", "\x00" + run(60, 0), api.ErrArg},
		{"a length of 0, more behind it than may be", "\x00" + run(61, 0), api.ErrArg},
		{"a length of 61, nothing behind it", "\x3d", api.ErrArg},
		{"a length of 61, a byte too few", "\x3d" + run(60, 0), api.ErrArg},
		{"a length of 61, its bytes", "\x3d" + run(61, 0), api.ErrArg},
		{"a length of 61, 60 bytes behind them", "\x3d" + run(121, 0), api.ErrArg},
		{"a length of 61, more behind them than may be", "\x3d" + run(122, 0), api.ErrArg},
		{"a length of 255, nothing behind it", "\xff", api.ErrArg},
		{"a length of 1, nothing behind it", "\x01", api.ErrShort},
		{"a length of 60, nothing behind it", "\x3c", api.ErrShort},
		{"a length of 60, a byte too few", "\x3c" + run(59, 0), api.ErrShort},
		{"a length of 60, its bytes", "\x3c" + run(60, 0), api.OK},
		{"a length of 60, 60 bytes behind them", "\x3c" + run(120, 0), api.OK},
		{"a length of 60, 61 bytes behind them", "\x3c" + run(121, 0), api.ErrLong},
		{"a length of 1, 60 bytes behind its byte", "\x01" + run(61, 0), api.OK},
		{"a length of 1, 61 bytes behind its byte", "\x01" + run(62, 0), api.ErrLong},
		{"a length of 1, very many bytes", "\x01" + run(70000, 0), api.ErrLong},
	} {
		got := getValue(x.data)
		if got.err != x.want || x.want != api.OK && got != (pair{err: x.want}) {
			t.Errorf("%s: GetValue = %#v", x.what, got)
		}
	}
}

// A value that is cut off anywhere is too short; behind its end the name is what there is.
func TestP1401Cut(t *testing.T) {
	for _, value := range texts()[1:] {
		for _, name := range texts() {
			b := putValue(value, name).text
			for n := range len(b) {
				want := pair{err: api.ErrShort}
				if n > len(value) {
					want = pair{value: value, name: name[:n-1-len(value)]}
				}
				if got := getValue(b[:n]); got != want {
					t.Errorf("GetValue(%q) = %#v", b[:n], got)
				}
			}
		}
	}
}

// What is told is the same each time, and a piece of some bytes is told as if it stood alone.
func TestP1401WhatStandsBehindAPiece(t *testing.T) {
	full := "\x02uvnn" + run(100, 1)
	for range 3 {
		if got := getValue(full[:5]); got != (pair{"uv", "nn", api.OK}) {
			t.Errorf("GetValue = %#v", got)
		}
		if got := getValue(full[:2]); got != (pair{err: api.ErrShort}) {
			t.Errorf("GetValue = %#v", got)
		}
		if got := putValue(full[1:3], full[3:5]); got != (said{full[:5], api.OK}) {
			t.Errorf("PutValue = %#v", got)
		}
	}
}

func FuzzP1401Get(f *testing.F) {
	for _, s := range append(noData(), "\x01vn", "\x01v", "\x3c"+run(120, 0)) {
		f.Add(s)
	}
	f.Fuzz(func(t *testing.T, data string) {
		got := getValue(data)
		if got.err == api.OK && putValue(got.value, got.name) != (said{data, api.OK}) || got.err != api.OK && got != (pair{err: got.err}) {
			t.Errorf("GetValue(%q) = %#v", data, got)
		}
	})
}

// ends are ints that are far from all that is meant.
func ends() []int {
	return []int{math.MinInt, math.MinInt + 1, -1 << 32, -256, -255, 1 << 8, 1 << 16, 1 << 32, 1<<32 + 1, 1<<32 + 2, 1<<32 + 3, 1<<32 + 4, 1 << 62, math.MaxInt}
}

// others are ints beside one, those among them that a byte would tell as it.
func others(n int) []int {
	var l []int
	for i := -300; i < 600; i++ {
		l = append(l, i)
	}
	l = append(append(l, ends()...), n-1<<32, n+1<<32, n-1<<16, n+1<<16)
	out := l[:0]
	for _, i := range l {
		if i != n {
			out = append(out, i)
		}
	}
	return out
}

// packet tells a packet with a value and a name.
func packet(code, id int, value, name string) api.Packet {
	return api.Packet{Code: code, Id: id, Data: head(len(value)) + value + name}
}

func bare(code, id int) api.Packet { return api.Packet{Code: code, Id: id} }

// says holds packets against what they should be; nil and an empty list mean the same.
func says(t *testing.T, what string, got []api.Packet, want ...api.Packet) {
	t.Helper()
	if len(got) != len(want) {
		t.Fatalf("%s: %#v, not %#v", what, got, want)
	}
	for i, p := range got {
		w := want[i]
		if p.Code != w.Code || p.Id != w.Id || p.Data != w.Data || len(p.Options) > 0 || len(w.Options) > 0 {
			t.Fatalf("%s: %#v, not %#v", what, got, want)
		}
	}
}

// is holds whether an end is done, and good, against what it should be.
func is(t *testing.T, what string, e interface{ Done() (bool, bool) }, done, good bool) {
	t.Helper()
	if d, g := e.Done(); d != done || g != good {
		t.Fatalf("%s: Done() = %v, %v, not %v, %v", what, d, g, done, good)
	}
}

// spoil changes all of a list of packets, its spare room too.
func spoil(l []api.Packet) {
	for i := range l[:cap(l)] {
		l[:cap(l)][i] = api.Packet{Code: -9, Id: -9, Options: make([]api.Option, 1), Data: strings.Repeat("s", 9)}
	}
}
