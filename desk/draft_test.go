package desk_test

import (
	"math/rand/v2"
	"slices"
	"strconv"
	"strings"
	"testing"

	"nuncio/api"
	"nuncio/desk"
)

func random() *rand.Rand { return rand.New(rand.NewPCG(24, 25)) }

func pick[T any](r *rand.Rand, l ...T) T { return l[r.IntN(len(l))] }

// refused stands for an error where an answer is told.
func refused(e api.Errno) string { return "refused " + strconv.Itoa(int(e)) }

// told is what a desk says to a line: the answer, or what stands for its error.
func told(t *testing.T, d *desk.Desk, line string) string {
	t.Helper()
	answer, e := d.Do(line)
	if e == api.OK {
		return answer
	}
	if answer != "" {
		t.Errorf("%q: %q beside %d", line, answer, e)
	}
	return refused(e)
}

// play: a desk says to each line what stands behind it.
func play(t *testing.T, d *desk.Desk, l ...string) {
	t.Helper()
	for i := 0; i < len(l); i += 2 {
		if got := told(t, d, l[i]); got != l[i+1] {
			t.Errorf("%q: %q, not %q", l[i], got, l[i+1])
		}
	}
}

// all: a desk does each line, whatever it answers.
func all(t *testing.T, d *desk.Desk, l ...string) {
	t.Helper()
	for _, line := range l {
		if got := told(t, d, line); strings.HasPrefix(got, "refused") {
			t.Fatalf("%q: %s", line, got)
		}
	}
}

// blocks: a chain makes so many, one second behind the other.
func blocks(t *testing.T, d *desk.Desk, i, n int) {
	t.Helper()
	for range n {
		all(t, d, "block "+strconv.Itoa(i)+" 1")
	}
}

func world(t *testing.T, lines ...string) *desk.Desk {
	t.Helper()
	d := desk.New()
	if d == nil {
		t.Fatal("New: nil")
	}
	all(t, d, lines...)
	return d
}

// look is all that a desk tells of itself.
func look(t *testing.T, d *desk.Desk) []string {
	t.Helper()
	var l []string
	for _, line := range []string{"clock", "height 0", "height 1", "show 0", "show 1", "trusted"} {
		l = append(l, line+": "+told(t, d, line))
	}
	for _, height := range strings.Fields(told(t, d, "trusted")) {
		l = append(l, told(t, d, "header "+height))
	}
	return l
}

// goOn makes a desk tell what is in its pools, what its chains may carry, and what its watch may come to.
func goOn(t *testing.T, d *desk.Desk) []string {
	t.Helper()
	var l []string
	for _, line := range []string{"block 0 3", "relay 1", "block 1 3", "relay 0", "block 0 3", "follow 99", "follow 4", "follow 5"} {
		l = append(l, line+": "+told(t, d, line))
	}
	return append(l, look(t, d)...)
}

// seed is the same desk whenever it is asked for, apart.
type seed func() *desk.Desk

// unchanged: a desk tells, and does, behind f what it does without f.
func (s seed) unchanged(t *testing.T, f func(d *desk.Desk)) {
	t.Helper()
	d, other := s(), s()
	f(d)
	if got, want := look(t, d), look(t, other); !slices.Equal(got, want) {
		t.Fatalf("%q, not %q", got, want)
	}
	if got, want := goOn(t, d), goOn(t, other); !slices.Equal(got, want) {
		t.Fatalf("%q, not %q", got, want)
	}
}

// busy is a desk with packets both ways, full and empty pools, and a watch.
func busy(t *testing.T) *desk.Desk {
	t.Helper()
	d := world(t, "new 3 4", "send 0 ann bob coin 5 20", "send 0 ann cid coin 6 3", "block 0 7", "relay 1", "block 1 2", "relay 0",
		"send 1 bob a/coin gold 7 90", "block 1 1", "watch 0 1 2 500 3", "follow 2", "pay 0 ann cid coin 8", "block 0 4", "pay 1 bob eve gold 4")
	for told(t, d, "pay 0 ann dan coin 9") == "ok" {
	}
	return d
}

// lines is one of each kind, with the words in their order: right ones, at any busy desk.
func lines() []string {
	return []string{"new 3 4", "pay 0 ann bob coin 5", "send 1 bob ann gold 5 20", "block 0 1", "relay 1", "height 0", "clock", "balance 0 ann coin", "supply 1 gold",
		"show 1", "watch 0 1 2 100 1", "follow 3", "trusted", "header 1"}
}

// isNumber tells, by the document's table, which words of a line are numbers.
func isNumber(first string, i int) bool {
	switch first {
	case "pay", "send":
		return i == 1 || i > 4
	case "balance", "supply":
		return i == 1
	}
	return i > 0
}

// isChain tells which word of a line is a chain.
func isChain(first string, i int) bool {
	return i == 1 && first != "new" && first != "follow" && first != "header"
}
