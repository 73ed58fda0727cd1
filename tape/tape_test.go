package tape

import (
	"math"
	"math/big"
	"slices"
	"strings"
	"testing"
)

// P301 and, of the tape, P304: draws, bytes, and what is behind the last number.

// draws tells what Next(n) answers for each n of ns, one behind the other.
func draws(t *Tape, ns ...int) []int {
	var out []int
	for _, n := range ns {
		out = append(out, t.Next(n))
	}
	return out
}

func TestP301Example(t *testing.T) {
	x := New([]int{300, -1})
	if got, want := draws(x, 256, 10, 10, 10), []int{44, 9, 7, 4}; !slices.Equal(got, want) {
		t.Errorf("draws %v, not %v", got, want)
	}
}

func TestP301NextIsModulo(t *testing.T) {
	for _, c := range []struct{ v, n, want int }{
		{0, 1, 0},
		{5, 1, 0},
		{-5, 1, 0},
		{0, 10, 0},
		{9, 10, 9},
		{10, 10, 0},
		{11, 10, 1},
		{-1, 10, 9},
		{-9, 10, 1},
		{-10, 10, 0},
		{-11, 10, 9},
		{math.MaxInt, 10, 7},
		{math.MinInt, 10, 2},
		{math.MaxInt, math.MaxInt, 0},
		{math.MaxInt - 1, math.MaxInt, math.MaxInt - 1},
		{-1, math.MaxInt, math.MaxInt - 1},
		{math.MinInt, math.MaxInt, math.MaxInt - 1},
		{math.MinInt + 1, math.MaxInt, 0},
	} {
		x := New([]int{c.v})
		if got := x.Next(c.n); got != c.want {
			t.Errorf("Next(%d) of %d = %d, not %d", c.n, c.v, got, c.want)
		}
		if x.Left() != 0 {
			t.Errorf("Next(%d) of %d leaves %d", c.n, c.v, x.Left())
		}
	}
}

func TestP301NextInOrder(t *testing.T) {
	x := New([]int{4, 3, 2, 1, 1, 2})
	for i, want := range []int{4, 3, 2, 1, 1, 2} {
		if x.Left() != 6-i {
			t.Errorf("ahead of draw %d: %d left", i, x.Left())
		}
		if got := x.Next(5); got != want {
			t.Errorf("draw %d = %d, not %d", i, got, want)
		}
	}
	if x.Left() != 0 {
		t.Errorf("at the end: %d left", x.Left())
	}
}

func TestP301NextBelowOneTakesNothing(t *testing.T) {
	x := New([]int{8, 9})
	for _, n := range []int{0, -1, -256, math.MinInt} {
		if got := x.Next(n); got != 0 || x.Left() != 2 {
			t.Errorf("Next(%d) = %d, %d left", n, got, x.Left())
		}
	}
	if got, want := draws(x, 100, 100, 0, -3, 100, 0, 100), []int{8, 9, 0, 0, 7, 0, 14}; !slices.Equal(got, want) {
		t.Errorf("draws %v, not %v: an ask for nothing counts behind the end", got, want)
	}
}

func TestP301BehindTheEnd(t *testing.T) {
	for _, l := range [][]int{nil, {}, {1}, {1, 2, 3}} {
		x := New(l)
		for range l {
			x.Next(7)
		}
		for i := 1; i <= 1000; i++ {
			n := i%13 + 1
			if got := x.Next(n); got != 7*i%n {
				t.Errorf("draw %d behind the end of %v: Next(%d) = %d, not %d", i, l, n, got, 7*i%n)
			}
			if x.Left() != 0 {
				t.Errorf("draw %d behind the end of %v: %d left", i, l, x.Left())
			}
		}
	}
	if got, want := draws(New(nil), 1, 1, math.MaxInt), []int{0, 0, 21}; !slices.Equal(got, want) {
		t.Errorf("draws %v, not %v", got, want)
	}
}

func TestP301BehindTheEndTheCounterStays(t *testing.T) {
	for _, asked := range []int{1<<60 - 1, 1<<61 + 5, 1<<62 - 2, 1<<62 - 1, 1 << 62} {
		for _, n := range []int{1, 10, 256, 1 << 40, math.MaxInt - 1, math.MaxInt} {
			x := &Tape{asked: asked}
			want := big.NewInt(int64(min(asked+1, 1<<62)))
			want.Mul(want, big.NewInt(7)).Mod(want, big.NewInt(int64(n)))
			if got := x.Next(n); int64(got) != want.Int64() {
				t.Errorf("Next(%d) behind %d asks = %d, not %d", n, asked, got, want)
			}
		}
	}
}

func TestP301NewKeepsNoListOfOthers(t *testing.T) {
	room := []int{1, 2, 3, 4, 5}
	x := New(room[:3])
	room[0], room[1], room[2] = 9, 9, 9
	if got, want := draws(x, 10, 10, 10, 10), []int{1, 2, 3, 7}; !slices.Equal(got, want) {
		t.Errorf("draws %v, not %v", got, want)
	}
	if want := []int{9, 9, 9, 4, 5}; !slices.Equal(room, want) {
		t.Errorf("the list that was handed in is %v, not %v", room, want)
	}
}

func TestP301TapesOfOneListAreTheirOwn(t *testing.T) {
	l := []int{1, 2}
	a, b := New(l), New(l)
	a.Next(10)
	a.Next(10)
	a.Next(10)
	if got, want := draws(b, 10, 10, 10), []int{1, 2, 7}; !slices.Equal(got, want) {
		t.Errorf("draws %v, not %v", got, want)
	}
}

func TestP301Bytes(t *testing.T) {
	x := New([]int{0, 1, 255, 256, -1, -255, 300, math.MinInt, 'a'})
	if got, want := x.Bytes(9), "\x00\x01\xff\x00\xff\x01\x2c\x00a"; got != want {
		t.Errorf("Bytes(9) = %x, not %x", got, want)
	}
	if got, want := x.Bytes(3), "\x07\x0e\x15"; got != want {
		t.Errorf("Bytes(3) behind the end = %x, not %x", got, want)
	}
	y := New([]int{'x', 'y'})
	if got, want := y.Bytes(1)+y.Bytes(3), "xy\x07\x0e"; got != want {
		t.Errorf("Bytes across the end = %q, not %q", got, want)
	}
}

func TestP301BytesOfEachLength(t *testing.T) {
	for n := -2; n <= 70; n++ {
		x := New(make([]int, 100))
		want := n
		if n < 1 || n > 64 {
			want = 0
		}
		if got := x.Bytes(n); got != strings.Repeat("\x00", want) || x.Left() != 100-want {
			t.Errorf("Bytes(%d) = %x, %d left", n, got, x.Left())
		}
	}
	for _, n := range []int{math.MinInt, math.MaxInt, 1 << 32} {
		x := New([]int{5})
		if got := x.Bytes(n); got != "" || x.Left() != 1 {
			t.Errorf("Bytes(%d) = %x, %d left", n, got, x.Left())
		}
	}
}

func TestP301BytesOfNoneCountNothing(t *testing.T) {
	x := New(nil)
	x.Bytes(0)
	x.Bytes(65)
	if got := x.Next(100); got != 7 {
		t.Errorf("Next(100) = %d, not 7", got)
	}
}

func TestP304ZeroTapeIsEmpty(t *testing.T) {
	var x Tape
	if x.Left() != 0 {
		t.Errorf("%d left", x.Left())
	}
	if got, want := draws(&x, 5, 5, 0, 100), []int{2, 4, 0, 21}; !slices.Equal(got, want) {
		t.Errorf("draws %v, not %v", got, want)
	}
	if got, want := x.Bytes(2), "\x1c\x23"; got != want {
		t.Errorf("Bytes(2) = %x, not %x", got, want)
	}
}

func TestP304NilTapeTellsNought(t *testing.T) {
	var x *Tape
	if got, want := draws(x, 9, 9, 0, -1, math.MaxInt), []int{0, 0, 0, 0, 0}; !slices.Equal(got, want) {
		t.Errorf("draws %v, not %v", got, want)
	}
	if x.Left() != 0 {
		t.Errorf("%d left", x.Left())
	}
	for _, c := range []struct {
		n    int
		want string
	}{{2, "\x00\x00"}, {64, strings.Repeat("\x00", 64)}, {0, ""}, {-1, ""}, {65, ""}} {
		if got := x.Bytes(c.n); got != c.want {
			t.Errorf("Bytes(%d) = %x, not %x", c.n, got, c.want)
		}
	}
}
