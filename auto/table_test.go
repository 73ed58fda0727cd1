package auto

import (
	"math"
	"slices"
	"strconv"
	"strings"
	"testing"

	"tollgate/api"
)

// P901, and the document's table, by which the tests of all promises know what is to happen.

// page is the table as the document has it: a row for each event, behind its name an entry for each state.
const page = `
| Up | 2 | irc scr/6 | - | - | - | - | - | - | - | - |
| Down | - | - | 0 | tls/1 | 0 | 1 | 1 | 1 | 1 | tld/1 |
| Open | tls/1 | 1 | irc scr/6 | 3 | 5 | 5 | 6 | 7 | 8 | 9 |
| Close | 0 | tlf/0 | 2 | 2 | 4 | 4 | irc str/4 | irc str/4 | irc str/4 | tld irc str/4 |
| ToPlus | - | - | - | - | str/4 | str/5 | scr/6 | scr/6 | scr/8 | - |
| ToMinus | - | - | - | - | tlf/2 | tlf/3 | tlf/3 | tlf/3 | tlf/3 | - |
| RcrPlus | - | - | sta/2 | irc scr sca/8 | 4 | 5 | sca/8 | sca tlu/9 | sca/8 | tld scr sca/8 |
| RcrMinus | - | - | sta/2 | irc scr scn/6 | 4 | 5 | scn/6 | scn/7 | scn/6 | tld scr scn/6 |
| Rca | - | - | sta/2 | sta/3 | 4 | 5 | irc/7 | scr/6 | irc tlu/9 | tld scr/6 |
| Rcn | - | - | sta/2 | sta/3 | 4 | 5 | irc scr/6 | scr/6 | irc scr/8 | tld scr/6 |
| Rtr | - | - | sta/2 | sta/3 | sta/4 | sta/5 | sta/6 | sta/6 | sta/6 | tld zrc sta/5 |
| Rta | - | - | 2 | 3 | tlf/2 | tlf/3 | 6 | 6 | 8 | tld scr/6 |
| Ruc | - | - | scj/2 | scj/3 | scj/4 | scj/5 | scj/6 | scj/7 | scj/8 | scj/9 |
| RxjPlus | - | - | 2 | 3 | 4 | 5 | 6 | 6 | 8 | 9 |
| RxjMinus | - | - | tlf/2 | tlf/3 | tlf/2 | tlf/3 | tlf/3 | tlf/3 | tlf/3 | tld irc str/5 |
| Rxr | - | - | 2 | 3 | 4 | 5 | 6 | 7 | 8 | ser/9 |
`

var (
	states  = []string{"Initial", "Starting", "Closed", "Stopped", "Closing", "Stopping", "ReqSent", "AckRcvd", "AckSent", "Opened"}
	events  = []string{"Up", "Down", "Open", "Close", "ToPlus", "ToMinus", "RcrPlus", "RcrMinus", "Rca", "Rcn", "Rtr", "Rta", "Ruc", "RxjPlus", "RxjMinus", "Rxr"}
	actions = []string{"tlu", "tld", "tls", "tlf", "irc", "zrc", "scr", "sca", "scn", "str", "sta", "scj", "ser"}
)

// said is an entry of the page: the next state, and the actions.
type said struct {
	next int
	does []int
}

// read reads the page: for each event the entries of the states.
func read(t *testing.T) [][]said {
	t.Helper()
	var out [][]said
	for event, line := range strings.Split(strings.TrimSpace(page), "\n") {
		cells := strings.Split(strings.Trim(line, "| "), " | ")
		if event >= len(events) || cells[0] != events[event] || len(cells) != len(states)+1 {
			t.Fatalf("row %d is no row of the page: %s", event, line)
		}
		var row []said
		for state, cell := range cells[1:] {
			row = append(row, readCell(t, state, cell))
		}
		out = append(out, row)
	}
	if len(out) != len(events) {
		t.Fatalf("the page has %d rows", len(out))
	}
	return out
}

func readCell(t *testing.T, state int, cell string) said {
	t.Helper()
	if cell == "-" {
		return said{next: state}
	}
	words, number := "", cell
	if i := strings.Index(cell, "/"); i >= 0 {
		words, number = cell[:i], cell[i+1:]
	}
	next, err := strconv.Atoi(number)
	if err != nil {
		t.Fatalf("%q is no entry", cell)
	}
	var does []int
	for _, w := range strings.Fields(words) {
		n := slices.Index(actions, w)
		if n < 0 {
			t.Fatalf("%q is no action", w)
		}
		does = append(does, n)
	}
	return said{next, does}
}

// far has numbers that are none, of whatever has n: on both sides, far off, and such as are some in their lower bits.
func far(n int) []int {
	out := []int{-1, -2, n, n + 1, math.MinInt, math.MaxInt, math.MinInt + 1, math.MaxInt - 1}
	for _, high := range []int{16, 1 << 8, 1 << 16, 1 << 31, 1 << 32, 1 << 62} {
		for low := range n {
			out = append(out, high+low, low-high)
		}
	}
	return out
}

// nothing holds that nothing happens to a state by an event.
func nothing(t *testing.T, state, event int) {
	t.Helper()
	if next, does := Next(state, event); next != state || len(does) != 0 {
		t.Errorf("Next(%d, %d) = %d, %v", state, event, next, does)
	}
}

func TestP901Table(t *testing.T) {
	for event, row := range read(t) {
		for state, want := range row {
			next, does := Next(state, event)
			if next != want.next || !slices.Equal(does, want.does) {
				t.Errorf("Next(%s, %s) = %d, %v, not %d, %v", states[state], events[event], next, does, want.next, want.does)
			}
		}
	}
}

func TestP901Examples(t *testing.T) {
	for _, x := range []struct {
		state, event, next int
		does               []int
	}{
		{api.Closed, api.Open, api.ReqSent, []int{api.Irc, api.Scr}},
		{api.Opened, api.Rtr, api.Stopping, []int{api.Tld, api.Zrc, api.Sta}},
		{api.Initial, api.Rca, api.Initial, nil},
	} {
		if next, does := Next(x.state, x.event); next != x.next || !slices.Equal(does, x.does) {
			t.Errorf("Next(%d, %d) = %d, %v, not %d, %v", x.state, x.event, next, does, x.next, x.does)
		}
	}
}

func TestP901AStateThatIsNone(t *testing.T) {
	for _, state := range far(len(states)) {
		for event := range events {
			nothing(t, state, event)
		}
	}
}

func TestP901AnEventThatIsNone(t *testing.T) {
	for _, event := range far(len(events)) {
		for state := range states {
			nothing(t, state, event)
		}
	}
}

func TestP901BothAreNone(t *testing.T) {
	for _, state := range far(len(states)) {
		for _, event := range far(len(events)) {
			nothing(t, state, event)
		}
	}
}

// spoil writes over a list and its spare room.
func spoil(l []int) {
	for i := range l[:cap(l)] {
		l[:cap(l)][i] = -7
	}
}

func TestP901ListsAreGivenAway(t *testing.T) {
	for event, row := range read(t) {
		for state, want := range row {
			_, first := Next(state, event)
			_, second := Next(state, event)
			spoil(first)
			if !slices.Equal(second, want.does) {
				t.Errorf("%s, %s: the lists of two calls share memory: %v", states[state], events[event], second)
			}
			if next, does := Next(state, event); next != want.next || !slices.Equal(does, want.does) {
				t.Errorf("Next(%s, %s) = %d, %v behind a list that was changed", states[state], events[event], next, does)
			}
		}
	}
	// What was spoilt at one place must not be seen at another one.
	TestP901Table(t)
}
