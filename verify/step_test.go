package verify_test

import (
	"math"
	"testing"

	"nuncio/api"
	"nuncio/forms"
	"nuncio/verify"
)

func (w world) step() api.Errno { return verify.Step(w.trusted.light(), w.l.light(), w.now, w.o) }

// both are worlds of the next height and of a greater one, changed alike.
func both(change func(*world)) []world {
	l := []world{adjacent(), distant()}
	for i := range l {
		change(&l[i])
		if i == 0 {
			l[i].l.header.Last = l[i].trusted.light().Commit.Block
		}
	}
	return l
}

func expect(t *testing.T, name string, want api.Errno, l ...world) {
	t.Helper()
	for i, w := range l {
		if e := w.step(); e != want {
			t.Errorf("%s (%d): %d, not %d", name, i, e, want)
		}
	}
}

func TestStepAccepts(t *testing.T) { // P15.1 (C2)
	expect(t, "as they are", api.OK, both(func(w *world) {})...)
	expect(t, "another chain", api.OK, both(func(w *world) { w.trusted.header.Chain, w.l.header.Chain = "b", "b" })...)
	expect(t, "another next set", api.OK, both(func(w *world) { w.l.next = setOf(0, 0, 7) })...)
	expect(t, "from another set", api.OK, both(func(w *world) { w.trusted.set, w.trusted.secrets = setOf(0, 0, 0, 0, 0, 8), []uint64{6} })...)
	expect(t, "the greatest time", api.OK, both(func(w *world) { w.l.header.Time, w.now, w.o.Period = api.MaxHeight, api.MaxHeight, api.MaxHeight })...)
	expect(t, "the least time", api.OK, both(func(w *world) { w.trusted.header.Time, w.l.header.Time = 0, 1 })...)
	last := distant()
	last.l.header.Height = api.MaxHeight
	expect(t, "the greatest height", api.OK, last)
	last.trusted.header.Height = api.MaxHeight - 2
	expect(t, "the greatest height but one", api.OK, last)
	edge := adjacent()
	edge.trusted.header.Height, edge.l.header.Height = api.MaxHeight-1, api.MaxHeight
	edge.l.header.Last = edge.trusted.light().Commit.Block
	expect(t, "the last step", api.OK, edge)
}

func TestStepClocks(t *testing.T) { // P15.1 (C2), P15.3
	for _, now := range append(nans(), infinity, belowAll) {
		for _, o := range []api.Options{{Level: 0.5, Period: 100, Drift: 5}, {Level: 0.5, Period: infinity, Drift: infinity}, {Level: 1, Period: tiny}} {
			expect(t, "a strange clock", api.ErrClock, both(func(w *world) { w.now, w.o = now, o })...)
		}
	}
}

func TestStepTimes(t *testing.T) { // P15.1 (C2)
	// The trusted header's time is 10, the other one's 20.
	for _, c := range []struct {
		now, period, drift float64
		want               api.Errno
	}{
		{110, 100, 0, api.ErrExpired}, {below(110), 100, 0, api.OK}, {110, above(100), 0, api.OK}, {115, 100, 0, api.ErrExpired}, {1e300, 100, 0, api.ErrExpired}, {1e300, infinity, 0, api.OK},
		{math.MaxFloat64, math.MaxFloat64, 0, api.ErrExpired}, {math.MaxFloat64, infinity, 0, api.OK},
		{20, 100, 0, api.OK}, {20, 100, minusZero, api.OK}, {below(20), 100, 0, api.ErrFuture}, {below(20), 100, minusZero, api.ErrFuture}, {15, 100, 5, api.OK}, {below(15), 100, 5, api.ErrFuture}, {15, 100, below(5), api.ErrFuture},
		{10, tiny, 10, api.OK}, {above(10), tiny, 10, api.ErrExpired}, {10, tiny, below(10), api.ErrFuture}, {0, 1, 20, api.OK}, {minusZero, 1, 20, api.OK}, {-5, 1, 25, api.OK}, {-5, 1, below(25), api.ErrFuture},
		{-1e300, 1, infinity, api.OK}, {-1e300, 1, 1e300, api.OK}, {-1e300, 1, 5, api.ErrFuture}, {-math.MaxFloat64, tiny, math.MaxFloat64, api.OK}, {-math.MaxFloat64, tiny, below(math.MaxFloat64), api.ErrFuture},
		// 2^53 + 20 - 1 is between two numbers, of which the even one is 2^53 + 20; so it is with 2^53 + 20 + 1.
		{-(1<<53 - 2), tiny, 1<<53 + 18, api.OK}, {-(1<<53 - 1), tiny, 1<<53 + 18, api.ErrFuture}, {-(1<<53 - 1), tiny, 1<<53 + 20, api.OK},
		{1<<53 + 28, 1<<53 + 18, 0, api.ErrExpired}, {1<<53 + 28, 1<<53 + 20, 0, api.OK},
	} {
		expect(t, "times", c.want, both(func(w *world) { w.now, w.o.Period, w.o.Drift = c.now, c.period, c.drift })...)
	}
}

// TestStepRounds: a difference of seconds is rounded ahead of being compared.
func TestStepRounds(t *testing.T) { // P15.1 (C2)
	odd := func(w *world) { w.trusted.header.Time, w.l.header.Time = 1, 3 }
	// 3 + 2^53 is rounded to 2^53 + 4.
	for _, c := range []struct {
		drift float64
		want  api.Errno
	}{{1<<53 + 2, api.ErrFuture}, {1<<53 + 4, api.OK}} {
		expect(t, "ahead", c.want, both(func(w *world) { odd(w); w.now, w.o.Drift = -1<<53, c.drift })...)
	}
	// 2^53 + 4 - 1 is rounded to 2^53 + 4, 2^53 + 2 - 1 to 2^53.
	for _, c := range []struct {
		now, period float64
		want        api.Errno
	}{{1<<53 + 4, 1<<53 + 4, api.ErrExpired}, {1<<53 + 2, 1<<53 + 2, api.OK}, {1<<53 + 2, 1 << 53, api.ErrExpired}} {
		expect(t, "behind", c.want, both(func(w *world) { odd(w); w.now, w.o.Period = c.now, c.period })...)
	}
	// 1 + 2^53 is rounded to 2^53: no more than that.
	expect(t, "ahead, rounded down", api.OK, both(func(w *world) {
		w.trusted.header.Time, w.l.header.Time, w.now, w.o.Drift = 0, 1, -1<<53, 1<<53
	})...)
}

func TestStepOrder(t *testing.T) { // P15.1 (C2)
	w := adjacent()
	expect(t, "the same block", api.ErrOrder, world{w.trusted, w.trusted, w.now, w.o})
	expect(t, "a block ahead", api.ErrOrder, world{w.l, w.trusted, w.now, w.o})
	for _, at := range []int{20, 21, 25, api.MaxHeight, math.MaxInt} {
		expect(t, "times", api.ErrOrder, both(func(w *world) { w.trusted.header.Time = at })...)
	}
	for _, height := range []int{8, 9, api.MaxHeight, math.MaxInt} {
		expect(t, "heights", api.ErrOrder, both(func(w *world) { w.trusted.header.Height = height })...)
	}
	for _, height := range []int{5, 4, 1, 0, -1, math.MinInt} {
		expect(t, "heights", api.ErrOrder, both(func(w *world) { w.l.header.Height = height })...)
	}
	for _, at := range []int{10, 9, 0, -1, math.MinInt} {
		expect(t, "times", api.ErrOrder, both(func(w *world) { w.l.header.Time = at })...)
	}
}

// TestStepForms: heights and times that are none, of the trusted block too.
func TestStepForms(t *testing.T) { // P15.1 (C2), T2
	endless := api.Options{Level: 0.5, Period: infinity, Drift: infinity}
	for _, n := range []int{api.MaxHeight + 1, math.MaxInt} {
		expect(t, "height", api.ErrForm, both(func(w *world) { w.l.header.Height = n })...)
		expect(t, "time", api.ErrForm, both(func(w *world) { w.l.header.Time, w.o = n, endless })...)
		expect(t, "time", api.ErrFuture, both(func(w *world) { w.l.header.Time = n })...)
	}
	for _, n := range []int{0, -1, math.MinInt + 1} {
		w := distant()
		w.trusted.header.Height, w.l.header.Height = n-1, n
		expect(t, "heights", api.ErrForm, w)
		w = distant()
		w.trusted.header.Time, w.l.header.Time, w.o = n-1, n, endless
		want := api.ErrForm
		if n == 0 {
			want = api.OK
		}
		expect(t, "times", want, w)
	}
	wrap := distant()
	wrap.trusted.header.Height, wrap.l.header.Height = math.MaxInt, math.MinInt
	expect(t, "a height that wraps", api.ErrOrder, wrap)
	wrap.trusted.header.Height, wrap.l.header.Height = math.MinInt, api.MaxHeight
	expect(t, "heights whose difference wraps", api.OK, wrap)
}

// TestStepFromNoHeader: a header that is not right has no hash, so no Last is that, the empty one neither.
func TestStepFromNoHeader(t *testing.T) { // P15.1 (C2), T2
	for _, f := range []func(*world){
		func(w *world) { w.trusted.header.Height, w.l.header.Height = 0, 1 },
		func(w *world) { w.trusted.header.Time = -1 },
		func(w *world) { w.trusted.header.Time = math.MinInt },
	} {
		w := adjacent()
		f(&w)
		w.l.header.Last, w.o.Period = api.Hash{}, infinity
		if l := w.l.light(); verify.Sound("a", l) != api.OK {
			t.Fatalf("not sound: %+v", l.Header)
		}
		expect(t, "no hash", api.ErrOrder, w)
	}
}

func TestStepUnsound(t *testing.T) { // P15.1 (C2), P15.2
	for _, f := range soundFaults() {
		expect(t, f.name, f.want, both(func(w *world) { f.make(&w.l) })...)
	}
	for _, chain := range []string{"b", "aa", "abcdefghijklmnop"} {
		expect(t, "another chain", api.ErrChain, both(func(w *world) { w.l.header.Chain = chain })...)
		expect(t, "another trusted chain", api.ErrChain, both(func(w *world) { w.trusted.header.Chain = chain })...)
	}
	for _, chain := range []string{"", "A", "abcdefghijklmnopq"} {
		expect(t, "no name", api.ErrForm, both(func(w *world) { w.trusted.header.Chain, w.l.header.Chain = chain, chain })...)
		expect(t, "no trusted name", api.ErrChain, both(func(w *world) { w.trusted.header.Chain = chain })...)
	}
}

func TestStepToTheNext(t *testing.T) { // P15.1 (C2), P15.2
	w := adjacent()
	w.l.set = crowd(3)
	expect(t, "another set", api.ErrSetHash, w)
	w.trusted.next = crowd(3)
	expect(t, "another set, and the hash ahead", api.ErrOrder, w)
	w.l.header.Last = w.trusted.light().Commit.Block
	expect(t, "another set, as it was told", api.OK, w)
	for _, bit := range []int{0, 31} {
		w = adjacent()
		w.l.header.Last[bit] ^= 1
		expect(t, "another last", api.ErrOrder, w)
	}
	w = adjacent()
	w.l.header.Last = api.Hash{}
	expect(t, "no last", api.ErrOrder, w)
	w.l.header.Last = w.trusted.header.Last
	expect(t, "the last's last", api.ErrOrder, w)
	w = adjacent()
	w.trusted.header.App[0]++
	expect(t, "another header ahead", api.ErrOrder, w)
	// Whom a set has in common with the trusted one counts for nothing here, nor does the level.
	w = adjacent()
	w.o.Level = 1
	expect(t, "the whole level", api.OK, w)
}

// TestStepByHashes: to the next height the trusted header's hashes count, to a greater one the trusted Next; nothing else of the trusted block does.
func TestStepByHashes(t *testing.T) { // P15.1 (C2)
	next, far := adjacent(), distant()
	bare := func(w world) api.Light {
		l := w.trusted.light()
		l.Commit, l.Set = api.Commit{}, nil
		return l
	}
	trusted := bare(next)
	trusted.Next = nil
	if e := verify.Step(trusted, next.l.light(), next.now, next.o); e != api.OK {
		t.Errorf("next, by the header alone: %d", e)
	}
	if e := verify.Step(trusted, far.l.light(), far.now, far.o); e != api.ErrTrust {
		t.Errorf("far, by the header alone: %d", e)
	}
	trusted = bare(far)
	if e := verify.Step(trusted, far.l.light(), far.now, far.o); e != api.OK {
		t.Errorf("far, by header and Next: %d", e)
	}
	trusted.Header.Next, trusted.Header.Set, trusted.Header.Last = api.Hash{}, api.Hash{}, api.Hash{}
	if e := verify.Step(trusted, far.l.light(), far.now, far.o); e != api.OK {
		t.Errorf("far, by Next: %d", e)
	}
	if e := verify.Step(trusted, next.l.light(), next.now, next.o); e != api.ErrSetHash {
		t.Errorf("next, without a hash: %d", e)
	}
}

func TestStepTrust(t *testing.T) { // P15.1 (C2), P15.2
	for _, c := range []struct {
		name      string
		next, set []api.Validator
		secrets   []uint64
		level     float64
		want      api.Errno
	}{
		{"a quarter", crowd(4), setOf(9, 1, 0, 0, 1), upTo(1), 1.0 / 3, api.ErrTrust},
		{"a quarter of the power", setOf(2, 1, 3, 2), setOf(9), upTo(1), 1.0 / 3, api.ErrTrust},
		{"a third, which is more than that number", crowd(3), setOf(9), upTo(1), 1.0 / 3, api.OK},
		{"a third, which is less than that number", crowd(3), setOf(9), upTo(1), above(1.0 / 3), api.ErrTrust},
		{"most power, a third", setOf(1<<48, 1<<49), setOf(9), upTo(1), 1.0 / 3, api.OK},
		{"most power, less than a third", setOf(1<<48-1, 1<<49+1), setOf(9), upTo(1), 1.0 / 3, api.ErrTrust},
		{"half", crowd(4), crowd(2), upTo(2), 0.5, api.ErrTrust},
		{"half, just above", crowd(4), crowd(2), upTo(2), below(0.5), api.OK},
		{"three quarters", crowd(4), crowd(3), upTo(3), 0.75, api.ErrTrust},
		{"three quarters by half", crowd(4), crowd(3), upTo(3), 0.5, api.OK},
		{"two thirds, which are more than that number", crowd(3), crowd(2), upTo(2), 2.0 / 3, api.OK},
		{"two thirds, which are less than that number", crowd(3), crowd(2), upTo(2), above(2.0 / 3), api.ErrTrust},
		{"all", crowd(4), crowd(4), upTo(4), 1, api.ErrTrust},
		{"all, just above", crowd(4), crowd(4), upTo(4), below(1), api.OK},
		{"all power, the whole level", setOf(api.MaxPower), setOf(1), upTo(1), 1, api.ErrTrust},
		{"all power, just above", setOf(api.MaxPower), setOf(1), upTo(1), below(1), api.OK},
		{"all power but one", setOf(api.MaxPower-1, 1), setOf(1), upTo(1), below(1), api.ErrTrust},
		{"nobody in common", setOf(1, 1), setOf(0, 0, 1, 1), []uint64{3, 4}, 1.0 / 3, api.ErrTrust},
		{"in common, but not signed", crowd(4), setOf(1, 1, 1, 1, 9), []uint64{1, 5}, 1.0 / 3, api.ErrTrust},
		{"in common and signed", crowd(4), setOf(1, 1, 1, 1, 9), []uint64{1, 2, 5}, 1.0 / 3, api.OK},
		{"strong here, weak there", setOf(1, 5), setOf(50, 0, 1), []uint64{1, 3}, 1.0 / 3, api.ErrTrust},
		{"weak here, strong there", setOf(5, 1), setOf(1, 0, 50), []uint64{1, 3}, 0.8, api.OK},
	} {
		w := distant()
		w.trusted.next, w.l.set, w.l.secrets, w.o.Level = c.next, c.set, c.secrets, c.level
		expect(t, c.name, c.want, w)
	}
	for _, x := range wrongSets() {
		w := distant()
		w.trusted.next = x.set
		expect(t, "trusted next: "+x.name, api.ErrTrust, w)
	}
}

// stepFault makes one thing wrong; rank is its place in C2's order.
type stepFault struct {
	name string
	rank int
	want api.Errno
	make func(*world)
}

// The ranks of Sound's errors stand between those of the times and those of the heights' own.
func stepFaults(far bool) []stepFault {
	l := []stepFault{
		{"level", 0, api.ErrOptions, func(w *world) { w.o.Level = math.NaN() }},
		{"period", 0, api.ErrOptions, func(w *world) { w.o.Period = math.NaN() }},
		{"drift", 0, api.ErrOptions, func(w *world) { w.o.Drift = math.NaN() }},
		{"clock", 1, api.ErrClock, func(w *world) { w.now = math.NaN() }},
		{"endless clock", 1, api.ErrClock, func(w *world) { w.now = infinity }},
		{"endless clock below", 1, api.ErrClock, func(w *world) { w.now = belowAll }},
		{"expired", 2, api.ErrExpired, func(w *world) { w.o.Period = 1 }},
		{"height", 3, api.ErrOrder, func(w *world) { w.trusted.header.Height = w.l.header.Height }},
		{"time", 3, api.ErrOrder, func(w *world) { w.trusted.header.Time = 20 }},
		{"future", 4, api.ErrFuture, func(w *world) { w.now, w.o.Drift = 18, 1 }},
		{"chain", 6, api.ErrChain, func(w *world) { w.l.header.Chain = "b" }},
	}
	rank := map[api.Errno]int{api.ErrForm: 5, api.ErrSet: 7, api.ErrSetHash: 8, api.ErrCommit: 9}
	for _, f := range soundFaults() {
		l = append(l, stepFault{f.name, rank[f.want], f.want, func(w *world) { f.make(&w.l) }})
	}
	if far {
		return append(l, stepFault{"trust", 10, api.ErrTrust, func(w *world) { w.trusted.next = crowd(64) }})
	}
	return append(l,
		stepFault{"not the next set", 10, api.ErrSetHash, func(w *world) {
			w.trusted.bend = append(w.trusted.bend, func(h *api.Header) { h.Next, _ = forms.SetHash(nil) })
			w.l.header.Last = w.trusted.light().Commit.Block
		}},
		stepFault{"last", 11, api.ErrOrder, func(w *world) { w.l.header.Last[7]++ }})
}

// TestStepFaults: each one alone, and of two the one that is named first.
func TestStepFaults(t *testing.T) { // P15.1 (C2), rule 1
	for i, begin := range []func() world{adjacent, distant} {
		faults := stepFaults(i == 1)
		for _, f := range faults {
			w := begin()
			f.make(&w)
			expect(t, f.name, f.want, w)
			for _, g := range faults {
				if f.rank >= g.rank {
					continue
				}
				w := begin()
				g.make(&w)
				f.make(&w)
				expect(t, f.name+", and "+g.name, f.want, w)
			}
		}
	}
}
