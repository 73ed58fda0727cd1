package pool

import (
	"fmt"
	"math"
	"math/big"
	"strings"
	"testing"

	"tollgate/api"
)

// P1601: Add and Text.

var (
	bottom = api.Addr{}
	top    = api.Addr{255, 255, 255, 255}
)

// onward tells the address behind one, counted as on a dial.
func onward(a api.Addr) api.Addr {
	for i := 3; i >= 0; i-- {
		a[i]++
		if a[i] != 0 {
			break
		}
	}
	return a
}

// back tells the address ahead of one.
func back(a api.Addr) api.Addr {
	for i := 3; i >= 0; i-- {
		a[i]--
		if a[i] != 255 {
			break
		}
	}
	return a
}

// reckoned tells the address n behind a by numbers that have no end.
func reckoned(a api.Addr, n int) api.Addr {
	v := new(big.Int).SetBytes(a[:])
	v.Add(v, big.NewInt(int64(n)))
	v.Mod(v, big.NewInt(1<<32))
	v.FillBytes(a[:])
	return a
}

// places are addresses from one end to the other, and around each carry.
func places() []api.Addr {
	return []api.Addr{
		bottom, {0, 0, 0, 1}, {0, 0, 0, 255}, {0, 0, 1, 0}, {0, 0, 255, 255}, {0, 1, 0, 0}, {0, 255, 255, 255}, {1, 0, 0, 0},
		{1, 2, 3, 4}, {10, 0, 0, 254}, {127, 255, 255, 255}, {128, 0, 0, 0}, {128, 128, 128, 128}, {192, 168, 255, 1},
		{254, 255, 255, 255}, {255, 0, 0, 0}, {255, 255, 0, 0}, {255, 255, 255, 0}, {255, 255, 255, 254}, top,
	}
}

// ways are numbers from one end to the other, and around each carry.
func ways() []int {
	l := []int{0, math.MinInt, math.MinInt + 1, math.MaxInt - 1, math.MaxInt}
	for _, n := range []int{1, 2, 127, 128, 255, 256, 257, 65535, 65536, 65537, 1<<24 - 1, 1 << 24, 1<<24 + 1, 1<<31 - 1, 1 << 31, 1<<31 + 1, 1<<32 - 2, 1<<32 - 1, 1 << 32, 1<<32 + 1, 1<<33 + 5, 1 << 40, 1<<62 + 3} {
		l = append(l, n, -n)
	}
	return l
}

func TestP1601Add(t *testing.T) {
	middle := api.Addr{1, 2, 3, 4}
	for _, x := range []struct {
		a    api.Addr
		n    int
		want api.Addr
	}{
		{bottom, 0, bottom}, {bottom, 1, api.Addr{0, 0, 0, 1}}, {bottom, 255, api.Addr{0, 0, 0, 255}},
		{bottom, 256, api.Addr{0, 0, 1, 0}}, {bottom, 65536, api.Addr{0, 1, 0, 0}}, {bottom, 1 << 24, api.Addr{1, 0, 0, 0}},
		{bottom, 1<<32 - 1, top}, {bottom, 1 << 32, bottom}, {bottom, 1<<32 + 1, api.Addr{0, 0, 0, 1}},
		{bottom, -1, top}, {bottom, -255, api.Addr{255, 255, 255, 1}}, {bottom, -256, api.Addr{255, 255, 255, 0}},
		{bottom, -65536, api.Addr{255, 255, 0, 0}}, {bottom, -1 << 24, api.Addr{255, 0, 0, 0}},
		{bottom, 1 - 1<<32, api.Addr{0, 0, 0, 1}}, {bottom, -1 << 32, bottom}, {bottom, -1<<32 - 1, top},
		{bottom, math.MinInt, bottom}, {bottom, math.MaxInt, top},
		{top, 0, top}, {top, 1, bottom}, {top, 255, api.Addr{0, 0, 0, 254}}, {top, 256, api.Addr{0, 0, 0, 255}},
		{top, 65536, api.Addr{0, 0, 255, 255}}, {top, 1<<32 - 1, api.Addr{255, 255, 255, 254}}, {top, 1 << 32, top},
		{top, 1<<32 + 1, bottom}, {top, -1, api.Addr{255, 255, 255, 254}}, {top, -256, api.Addr{255, 255, 254, 255}},
		{top, math.MinInt, top}, {top, math.MaxInt, api.Addr{255, 255, 255, 254}},
		{middle, 0, middle}, {middle, 252, api.Addr{1, 2, 4, 0}}, {middle, 256, api.Addr{1, 2, 4, 4}},
		{middle, 65536, api.Addr{1, 3, 3, 4}}, {middle, -5, api.Addr{1, 2, 2, 255}}, {middle, 1 << 40, middle},
		{api.Addr{9, 9, 9, 255}, 1, api.Addr{9, 9, 10, 0}}, {api.Addr{9, 9, 255, 255}, 1, api.Addr{9, 10, 0, 0}},
		{api.Addr{9, 255, 255, 255}, 1, api.Addr{10, 0, 0, 0}}, {api.Addr{10, 0, 0, 0}, -1, api.Addr{9, 255, 255, 255}},
		{api.Addr{127, 255, 255, 255}, 1, api.Addr{128, 0, 0, 0}}, {api.Addr{128, 0, 0, 0}, -1, api.Addr{127, 255, 255, 255}},
	} {
		if got := Add(x.a, x.n); got != x.want {
			t.Errorf("Add(%v, %d) = %v, not %v", x.a, x.n, got, x.want)
		}
	}
}

func TestP1601AddReckoned(t *testing.T) {
	for _, a := range places() {
		for _, n := range ways() {
			got := Add(a, n)
			if want := reckoned(a, n); got != want {
				t.Errorf("Add(%v, %d) = %v, not %v", a, n, got, want)
			}
			if again := Add(got, -n); again != a {
				t.Errorf("Add(%v, %d) = %v, not %v", got, -n, again, a)
			}
		}
	}
}

// Steps of one come to what one great step comes to, across every carry.
func TestP1601AddStepByStep(t *testing.T) {
	for _, from := range places() {
		up, down := from, from
		for n := range 70000 {
			if got := Add(from, n); got != up {
				t.Fatalf("Add(%v, %d) = %v, not %v", from, n, got, up)
			}
			if got := Add(from, -n); got != down {
				t.Fatalf("Add(%v, %d) = %v, not %v", from, -n, got, down)
			}
			up, down = onward(up), back(down)
		}
	}
}

func TestP1601Text(t *testing.T) {
	for _, x := range []struct {
		a    api.Addr
		want string
	}{
		{bottom, "0.0.0.0"}, {top, "255.255.255.255"}, {api.Addr{10, 0, 0, 254}, "10.0.0.254"},
		{api.Addr{1, 2, 3, 4}, "1.2.3.4"}, {api.Addr{9, 10, 99, 100}, "9.10.99.100"}, {api.Addr{0, 127, 128, 0}, "0.127.128.0"},
	} {
		if got := Text(x.a); got != x.want {
			t.Errorf("Text(%v) = %q, not %q", x.a, got, x.want)
		}
	}
}

func TestP1601TextEveryByte(t *testing.T) {
	for _, around := range []byte{0, 7, 48, 255} {
		for place := range 4 {
			for v := range 256 {
				a := api.Addr{around, around, around, around}
				a[place] = byte(v)
				want := strings.Repeat(fmt.Sprint(around, "."), place) + fmt.Sprint(v) + strings.Repeat(fmt.Sprint(".", around), 3-place)
				if got := Text(a); got != want {
					t.Errorf("Text(%v) = %q, not %q", a, got, want)
				}
			}
		}
	}
}
