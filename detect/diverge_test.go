package detect_test

import (
	"math"
	"reflect"
	"slices"
	"testing"

	"nuncio/api"
	"nuncio/detect"
)

// at is a block that says n.
func at(height int, n byte) api.Light {
	return api.Light{Header: api.Header{Chain: "a", Height: height, Data: api.Hash{n}}}
}

// line are blocks of these heights that say 0.
func line(heights ...int) []api.Light {
	var l []api.Light
	for _, h := range heights {
		l = append(l, at(h, 0))
	}
	return l
}

func diverges(t *testing.T, name string, trace, witness []api.Light, want int, errno api.Errno) {
	t.Helper()
	if n, e := detect.Diverge(trace, witness); n != want || e != errno {
		t.Errorf("%s: %d, %d; not %d, %d", name, n, e, want, errno)
	}
}

func TestDiverge(t *testing.T) { // P17.1 (H1), P17.4
	trace := line(3, 5, 6, 9)
	for _, c := range []struct {
		name    string
		witness []api.Light
		want    int
		errno   api.Errno
	}{
		{"at the first place", []api.Light{at(3, 0), at(5, 1), at(6, 0), at(9, 0)}, 1, api.OK},
		{"in the middle", []api.Light{at(3, 0), at(5, 0), at(6, 1), at(9, 0)}, 2, api.OK},
		{"at the end", []api.Light{at(3, 0), at(5, 0), at(6, 0), at(9, 1)}, 3, api.OK},
		{"from one place on", []api.Light{at(3, 0), at(5, 0), at(6, 1), at(9, 1)}, 2, api.OK},
		{"everywhere behind the root", []api.Light{at(3, 0), at(5, 1), at(6, 1), at(9, 1)}, 1, api.OK},
		{"the witness has few", []api.Light{at(3, 0), at(9, 1)}, 3, api.OK},
		{"the witness has others, too", []api.Light{at(1, 1), at(3, 0), at(4, 1), at(5, 0), at(6, 0), at(7, 1), at(9, 1), at(10, 1)}, 3, api.OK},
		{"the trace's order counts, not the witness's", []api.Light{at(9, 1), at(6, 1), at(5, 0), at(3, 0)}, 2, api.OK},
		{"the witness's first one of a height counts", []api.Light{at(3, 0), at(5, 0), at(5, 1), at(6, 1), at(6, 0)}, 2, api.OK},
		{"the first one of the root's height, too", []api.Light{at(3, 0), at(3, 1), at(9, 1)}, 3, api.OK},
		{"all the same", line(3, 5, 6, 9), 0, api.ErrMatch},
		{"no more than the root", line(3), 0, api.ErrMatch},
		{"none of these heights", []api.Light{at(3, 0), at(4, 1), at(7, 1), at(8, 1), at(10, 1), at(2, 1)}, 0, api.ErrMatch},
		{"another one later on", []api.Light{at(3, 0), at(5, 0), at(5, 1), at(9, 0), at(9, 7)}, 0, api.ErrMatch},
		{"another root", []api.Light{at(3, 1), at(5, 1), at(6, 0), at(9, 0)}, 0, api.ErrRoot},
		{"another root ahead", []api.Light{at(3, 1), at(3, 0), at(5, 1)}, 0, api.ErrRoot},
		{"no root", []api.Light{at(5, 1), at(6, 0), at(9, 0)}, 0, api.ErrRoot},
		{"no root, all the same", line(5, 6, 9), 0, api.ErrRoot},
		{"nothing", nil, 0, api.ErrRoot},
		{"nothing in a list", []api.Light{}, 0, api.ErrRoot},
	} {
		diverges(t, c.name, trace, c.witness, c.want, c.errno)
		alone := c.errno
		if alone == api.OK {
			alone = api.ErrMatch
		}
		diverges(t, c.name+", the root alone", trace[:1], c.witness, 0, alone)
		for _, none := range [][]api.Light{nil, {}, trace[:0]} {
			diverges(t, c.name+", no trace", none, c.witness, 0, api.ErrArg)
		}
	}
}

// TestDivergeStrangeTraces: what is no trace of a chain is gone through in its order.
func TestDivergeStrangeTraces(t *testing.T) { // P17.1 (H1), P1
	witness := []api.Light{at(3, 0), at(5, 1), at(2, 1), at(-4, 1), at(math.MinInt, 0), at(math.MaxInt, 2), at(0, 3)}
	for _, c := range []struct {
		name  string
		trace []api.Light
		want  int
		errno api.Errno
	}{
		{"heights that fall", line(3, 2, 5), 1, api.OK},
		{"a height twice", []api.Light{at(3, 0), at(5, 1), at(5, 0)}, 2, api.OK},
		{"the root's height again", []api.Light{at(3, 0), at(3, 1), at(5, 0)}, 1, api.OK},
		{"the root again", []api.Light{at(3, 0), at(3, 0), at(5, 0)}, 2, api.OK},
		{"below nought", line(3, -3, -4), 2, api.OK},
		{"the least height", line(math.MinInt, math.MaxInt, 5), 1, api.OK},
		{"nought", []api.Light{at(0, 3), at(5, 1), at(math.MinInt, 0)}, 0, api.ErrMatch},
		{"zero values", make([]api.Light, 3), 0, api.ErrRoot},
	} {
		diverges(t, c.name, c.trace, witness, c.want, c.errno)
	}
	diverges(t, "zero values of both", make([]api.Light, 3), make([]api.Light, 2), 0, api.ErrMatch)
}

// TestOtherHeaders: each field of a header makes it another one, and what is not the header does not.
func TestOtherHeaders(t *testing.T) { // P17.1 (H1)
	w := equivocal(7)
	trace := []api.Light{w.common.light(), w.other.light()}
	even, odd := headerChanges()
	for i, f := range append(even, odd...) {
		witness := slices.Clone(trace)
		f(&witness[1].Header)
		diverges(t, "change "+string(rune('a'+i)), trace, witness, 1, api.OK)
		f(&witness[0].Header)
		diverges(t, "change of the root "+string(rune('a'+i)), trace, witness, 0, api.ErrRoot)
	}
	for _, i := range []int{0, 1} {
		witness := slices.Clone(trace)
		witness[i].Commit, witness[i].Set, witness[i].Next = api.Commit{Round: 4}, crowd(2), nil
		diverges(t, "other commits and sets", trace, witness, 0, api.ErrMatch)
	}
}

// plainDiverge goes through all, by H1's words.
func plainDiverge(trace, witness []api.Light) (int, api.Errno) {
	if len(trace) == 0 {
		return 0, api.ErrArg
	}
	for i, l := range trace {
		n := slices.IndexFunc(witness, func(x api.Light) bool { return x.Header.Height == l.Header.Height })
		switch {
		case i == 0 && (n < 0 || !reflect.DeepEqual(witness[n].Header, l.Header)):
			return 0, api.ErrRoot
		case i > 0 && n >= 0 && !reflect.DeepEqual(witness[n].Header, l.Header):
			return i, api.OK
		}
	}
	return 0, api.ErrMatch
}

func TestAnyDiverge(t *testing.T) { // P17.1 (H1), P17.4, P2
	r := random()
	anyLine := func() []api.Light {
		var l []api.Light
		for range r.IntN(9) {
			l = append(l, at(r.IntN(6), pick[byte](r, 0, 0, 0, 0, 1)))
		}
		return l
	}
	seen := map[api.Errno]int{}
	for range 50000 {
		trace, witness := anyLine(), anyLine()
		n, e := detect.Diverge(trace, witness)
		if want, errno := plainDiverge(trace, witness); n != want || e != errno {
			t.Fatalf("Diverge of %v and %v: %d, %d; not %d, %d", trace, witness, n, e, want, errno)
		}
		if again, f := detect.Diverge(trace, witness); again != n || f != e {
			t.Fatalf("Diverge again: %d, %d; not %d, %d", again, f, n, e)
		}
		seen[e]++
	}
	for _, e := range []api.Errno{api.OK, api.ErrArg, api.ErrRoot, api.ErrMatch} {
		if seen[e] < 1000 {
			t.Errorf("the answer %d was seen %d times", e, seen[e])
		}
	}
}

// TestDivergeBehindLists: what lies behind the lists' ends counts for nothing, and nothing is written.
func TestDivergeBehindLists(t *testing.T) { // rule 4
	trace, witness := []api.Light{at(3, 0), at(5, 0), at(6, 1)}, []api.Light{at(3, 0), at(6, 0), at(5, 1)}
	was, saw := slices.Clone(trace), slices.Clone(witness)
	diverges(t, "cut", trace[:2], witness[:2], 0, api.ErrMatch)
	diverges(t, "the trace cut", trace[:2], witness, 1, api.OK)
	diverges(t, "the witness cut", trace, witness[:2], 2, api.OK)
	diverges(t, "no trace", trace[:0], witness, 0, api.ErrArg)
	diverges(t, "no witness", trace, witness[:0], 0, api.ErrRoot)
	if !reflect.DeepEqual(trace, was) || !reflect.DeepEqual(witness, saw) {
		t.Errorf("written into: %v, %v", trace, witness)
	}
}

// TestLongLines: long ones come to an end soon, too.
func TestLongLines(t *testing.T) { // P1
	const n = 200000
	trace, witness := make([]api.Light, n), make([]api.Light, n)
	for i := range n {
		trace[i], witness[n-1-i] = at(i, 0), at(i, 0)
	}
	diverges(t, "the same", trace, witness, 0, api.ErrMatch)
	trace[n-1] = at(n-1, 1)
	diverges(t, "the last one", trace, witness, n-1, api.OK)
}
