package verify_test

import (
	"bytes"
	"math"
	"math/big"
	"math/rand/v2"
	"reflect"
	"slices"
	"testing"

	"nuncio/api"
	"nuncio/forms"
	"nuncio/tally"
	"nuncio/verify"
)

// nearest is a float64 whose exact value is n.
func nearest(n *big.Float) float64 {
	f, _ := new(big.Float).SetPrec(53).SetMode(big.ToNearestEven).Set(n).Float64()
	return f
}

func plainSeconds(t int) float64 { return nearest(new(big.Float).SetPrec(64).SetInt64(int64(t))) }

// less is the difference of two numbers that are no NaNs, reckoned exactly and then rounded; the second one is finite.
func less(a, b float64) float64 {
	if math.IsInf(a, 0) {
		return a
	}
	x := new(big.Float).SetPrec(2200).SetFloat64(a)
	return nearest(x.Sub(x, new(big.Float).SetPrec(2200).SetFloat64(b)))
}

func plainExpired(t int, now float64, o api.Options) bool {
	if now != now || o.Period != o.Period {
		return true
	}
	return less(now, plainSeconds(t)) >= o.Period
}

func plainRight(o api.Options) bool {
	if o.Level != o.Level || o.Period != o.Period || o.Drift != o.Drift {
		return false
	}
	return math.Float64frombits(0x3FD5555555555555) <= o.Level && o.Level <= 1 && 0 < o.Period && 0 <= o.Drift
}

func within(n, least, most int) bool { return least <= n && n <= most }

func plainForm(l api.Light) bool {
	letters := bytes.Trim([]byte(l.Header.Chain), "abcdefghijklmnopqrstuvwxyz")
	return len(letters) == 0 && within(len(l.Header.Chain), 1, 16) &&
		within(l.Header.Height, 1, 1<<40) && within(l.Header.Time, 0, 1<<40) &&
		within(l.Commit.Height, 1, 1<<40) && within(l.Commit.Round, 0, 1<<20) && len(l.Commit.Seals) <= 64
}

func plainSet(l []api.Validator) bool {
	all := new(big.Int)
	for i, v := range l {
		if v.Power < 1 || i > 0 && l[i-1].Key >= v.Key {
			return false
		}
		all.Add(all, big.NewInt(int64(v.Power)))
	}
	return within(len(l), 1, 64) && all.Cmp(big.NewInt(1<<50)) <= 0
}

// signers is the power in a right set of those whose seals are good, and of all.
func signers(set []api.Validator, chain string, c api.Commit) (part, total int) {
	for _, v := range set {
		total += v.Power
		for _, s := range c.Seals {
			if s.Key == v.Key && tally.Signed(api.Vote{Chain: chain, Height: c.Height, Round: c.Round, Type: api.Precommit, Block: c.Block, Key: s.Key, Sig: s.Sig}) {
				part += v.Power
			}
		}
	}
	return part, total
}

func plainCommit(l api.Light) bool {
	hash, _ := forms.HeaderHash(l.Header)
	keys := map[uint64]int{}
	for _, v := range l.Set {
		keys[v.Key] = v.Power
	}
	all := 0
	for i, s := range l.Commit.Seals {
		if i > 0 && l.Commit.Seals[i-1].Key >= s.Key {
			return false
		}
		all += keys[s.Key]
		if keys[s.Key] == 0 {
			return false
		}
	}
	part, total := signers(l.Set, l.Header.Chain, l.Commit)
	return l.Commit.Height == l.Header.Height && l.Commit.Block == hash && part == all && 3*part > 2*total
}

func plainSound(chain string, l api.Light) api.Errno {
	set, _ := forms.SetHash(l.Set)
	next, _ := forms.SetHash(l.Next)
	switch {
	case !plainForm(l):
		return api.ErrForm
	case l.Header.Chain != chain:
		return api.ErrChain
	case !plainSet(l.Set) || !plainSet(l.Next):
		return api.ErrSet
	case l.Header.Set != set || l.Header.Next != next:
		return api.ErrSetHash
	case !plainCommit(l):
		return api.ErrCommit
	}
	return api.OK
}

// moreThan reckons with whole quotients of any length.
func moreThan(part, total int, level float64) bool {
	share := new(big.Rat).SetFloat64(level)
	share.Mul(share, new(big.Rat).SetInt64(int64(total)))
	return new(big.Rat).SetInt64(int64(part)).Cmp(share) > 0
}

func plainStep(trusted, l api.Light, now float64, o api.Options) api.Errno {
	switch {
	case !plainRight(o):
		return api.ErrOptions
	case now != now || now == infinity || now == belowAll:
		return api.ErrClock
	case plainExpired(trusted.Header.Time, now, o):
		return api.ErrExpired
	case !(l.Header.Height > trusted.Header.Height && l.Header.Time > trusted.Header.Time):
		return api.ErrOrder
	case less(plainSeconds(l.Header.Time), now) > o.Drift:
		return api.ErrFuture
	}
	if e := plainSound(trusted.Header.Chain, l); e != api.OK {
		return e
	}
	if l.Header.Height-1 == trusted.Header.Height {
		hash, e := forms.HeaderHash(trusted.Header)
		switch {
		case l.Header.Set != trusted.Header.Next:
			return api.ErrSetHash
		case l.Header.Last != hash || e != api.OK:
			return api.ErrOrder
		}
		return api.OK
	}
	if !plainSet(trusted.Next) {
		return api.ErrTrust
	}
	if part, total := signers(trusted.Next, l.Header.Chain, l.Commit); !moreThan(part, total, o.Level) {
		return api.ErrTrust
	}
	return api.OK
}

func pick[T any](r *rand.Rand, l ...T) T { return l[r.IntN(len(l))] }

// anySet is mostly right, of few secrets, so that sets have some in common.
func anySet(r *rand.Rand) []api.Validator {
	powers := make([]int, 5)
	for i := range powers {
		powers[i] = pick(r, 0, 1, 1, 2, 3, 5)
	}
	if r.IntN(8) == 0 {
		powers[r.IntN(5)] = pick(r, 1<<49, 1<<50-20, 1<<50, -1, math.MaxInt)
	}
	return setOf(powers...)
}

func anySecrets(r *rand.Rand, set []api.Validator) []uint64 {
	var l []uint64
	for _, s := range upTo(5) {
		in := slices.ContainsFunc(set, func(v api.Validator) bool { return v.Key == keyOf(s) })
		if in && r.IntN(6) > 0 || r.IntN(60) == 0 {
			l = append(l, s)
		}
	}
	return l
}

func anyFloat(r *rand.Rand, l ...float64) float64 {
	f := pick(r, l...)
	switch r.IntN(12) {
	case 0:
		return above(f)
	case 1:
		return below(f)
	case 2:
		return pick(r, infinity, belowAll, math.NaN(), minusZero, tiny, -1, 1e300, math.MaxFloat64, -math.MaxFloat64)
	}
	return f
}

// anyWorld is close to steps that may be, with some faults.
func anyWorld(r *rand.Rand) world {
	w := adjacent()
	w.trusted.next = anySet(r)
	w.l.set = w.trusted.next
	if r.IntN(2) == 0 {
		w.l.set = anySet(r)
	}
	w.l.next, w.l.secrets, w.l.round = anySet(r), anySecrets(r, w.l.set), r.IntN(2)
	w.trusted.header.Height, w.trusted.header.Time = 1+r.IntN(3), r.IntN(10)
	w.l.header.Height, w.l.header.Time = w.trusted.header.Height+pick(r, 0, 1, 1, 1, 2, 2, 7), w.trusted.header.Time+r.IntN(20)
	w.l.header.Last = w.trusted.light().Commit.Block
	w.now = anyFloat(r, 0, 5, 10, 20, 25)
	w.o = api.Options{Level: anyFloat(r, 1.0/3, 0.5, 2.0/3, 0.75, 1), Period: anyFloat(r, 5, 20, 100, infinity), Drift: anyFloat(r, 0, 1, 10, infinity)}
	if r.IntN(6) == 0 {
		pick(r, append(timeForms(), soundFaults()...)...).make(&w.l)
	}
	if r.IntN(20) == 0 {
		bent("", 0, func(h *api.Header) { h.Last[r.IntN(32)] ^= 16 }).make(&w.l)
	}
	if r.IntN(30) == 0 {
		pick(r, timeForms()...).make(&w.trusted)
	}
	return w
}

// TestAnyStep holds any steps against C1 and C2 told plainly, and what is accepted against what that means.
func TestAnyStep(t *testing.T) { // P15.1, P15.2, P15.3
	r := random()
	seen := map[api.Errno]int{}
	for range 20000 {
		w := anyWorld(r)
		trusted, l := w.trusted.light(), w.l.light()
		if got, want := verify.Sound("a", l), plainSound("a", l); got != want {
			t.Fatalf("Sound of %+v: %d, not %d", l, got, want)
		}
		if got, want := verify.Expired(l.Header.Time, w.now, w.o), plainExpired(l.Header.Time, w.now, w.o); got != want {
			t.Fatalf("Expired(%d, %v, %v): %v", l.Header.Time, w.now, w.o, got)
		}
		if got, want := verify.Right(w.o), plainRight(w.o); got != want {
			t.Fatalf("Right(%v): %v", w.o, got)
		}
		e := verify.Step(trusted, l, w.now, w.o)
		if want := plainStep(trusted, l, w.now, w.o); e != want {
			t.Fatalf("Step of %+v from %+v, %v, %v: %d, not %d", l, trusted, w.now, w.o, e, want)
		}
		seen[e]++
		if e == api.OK {
			vouchedFor(t, trusted, l, w.o)
			inTime(t, trusted, l, w.now, w.o)
		}
	}
	for _, e := range []api.Errno{api.OK, api.ErrOptions, api.ErrClock, api.ErrExpired, api.ErrOrder, api.ErrFuture, api.ErrForm, api.ErrSet, api.ErrSetHash, api.ErrCommit, api.ErrTrust} {
		if seen[e] < 20 {
			t.Errorf("the answer %d was seen %d times", e, seen[e])
		}
	}
}

// vouchedFor is P15.2.
func vouchedFor(t *testing.T, trusted, l api.Light, o api.Options) {
	t.Helper()
	if part, total := signers(l.Set, l.Header.Chain, l.Commit); !moreThan(3*part, 2*total, 1) {
		t.Fatalf("%d of %d signed", part, total)
	}
	if l.Header.Set == trusted.Header.Next {
		return
	}
	if part, total := signers(trusted.Next, l.Header.Chain, l.Commit); !moreThan(part, total, o.Level) {
		t.Fatalf("%d of %d trusted ones signed, by %v", part, total, o.Level)
	}
}

// inTime is P15.3.
func inTime(t *testing.T, trusted, l api.Light, now float64, o api.Options) {
	t.Helper()
	if math.IsNaN(now) || math.IsInf(now, 0) {
		t.Fatalf("accepted at %v", now)
	}
	for _, at := range []int{trusted.Header.Time, l.Header.Time} {
		if verify.Expired(at, now, o) || plainExpired(at, now, o) {
			t.Fatalf("accepted at %v, but %d is expired: %v", now, at, o)
		}
	}
	if less(plainSeconds(l.Header.Time), now) > o.Drift {
		t.Fatalf("accepted at %v, but %d is too far ahead: %v", now, l.Header.Time, o)
	}
}

// TestWhoVouches goes through all who may sign, of sets of one to five.
func TestWhoVouches(t *testing.T) { // P15.2
	sets := [][]api.Validator{crowd(3), crowd(4), setOf(0, 1, 1, 1, 1), setOf(3, 2, 1), setOf(0, 0, 1, 5, 3), setOf(1<<48, 1<<48, 0, 1<<48, 1<<48), setOf(0, 0, 0, 0, 1)}
	levels := []float64{1.0 / 3, above(1.0 / 3), 0.5, 2.0 / 3, above(2.0 / 3), 0.75, 1}
	for _, next := range sets {
		for _, set := range sets {
			for signed := range 1 << 5 {
				w := distant()
				w.trusted.next, w.l.set, w.l.secrets = next, set, nil
				for i, s := range upTo(5) {
					if signed>>i&1 == 1 {
						w.l.secrets = append(w.l.secrets, s)
					}
				}
				trusted, l := w.trusted.light(), w.l.light()
				for _, level := range levels {
					w.o.Level = level
					e := verify.Step(trusted, l, w.now, w.o)
					if want := plainStep(trusted, l, w.now, w.o); e != want {
						t.Fatalf("%v signed of %v, from %v, by %v: %d, not %d", w.l.secrets, set, next, level, e, want)
					}
					if e == api.OK {
						vouchedFor(t, trusted, l, w.o)
					}
				}
			}
		}
	}
}

// TestStrangeClocks goes through clocks, periods and drifts at their edges.
func TestStrangeClocks(t *testing.T) { // P15.3
	fs := append(nans(), infinity, belowAll, minusZero, 0, tiny, -tiny, 0.5, 1, 5, 10, 15, 20, 25, 1<<53+2, -1<<53, 1<<63, 1e300, -1e300, math.MaxFloat64, -math.MaxFloat64)
	for _, f := range fs {
		fs = append(fs, above(f), below(f))
	}
	accepted := 0
	for _, w := range both(func(*world) {}) {
		trusted, l := w.trusted.light(), w.l.light()
		for _, now := range fs {
			for _, period := range fs {
				for _, drift := range fs {
					o := api.Options{Level: 1.0 / 3, Period: period, Drift: drift}
					e := verify.Step(trusted, l, now, o)
					if want := plainTimes(trusted.Header, l.Header, now, o); e != want {
						t.Fatalf("at %v, %v: %d, not %d", now, o, e, want)
					}
					if e == api.OK {
						accepted++
						inTime(t, trusted, l, now, o)
					}
				}
			}
		}
	}
	if accepted < 1000 {
		t.Errorf("%d were accepted", accepted)
	}
}

// plainTimes is what C2 says of blocks that are right but for the times.
func plainTimes(trusted, h api.Header, now float64, o api.Options) api.Errno {
	switch {
	case !plainRight(o):
		return api.ErrOptions
	case math.IsNaN(now) || math.IsInf(now, 0):
		return api.ErrClock
	case plainExpired(trusted.Time, now, o):
		return api.ErrExpired
	case less(plainSeconds(h.Time), now) > o.Drift:
		return api.ErrFuture
	}
	return api.OK
}

func TestAnyExpired(t *testing.T) { // P15.1 (C1), P1
	r := random()
	for range 100000 {
		at := int(r.Uint64()) >> r.IntN(64)
		now := pick(r, float64(at), math.Float64frombits(r.Uint64()), float64(int(r.Uint64())>>r.IntN(64)))
		period := pick(r, now-float64(at), now+float64(r.IntN(100)), math.Float64frombits(r.Uint64()))
		o := api.Options{Period: anyFloat(r, period)}
		now = anyFloat(r, now)
		if got := verify.Expired(at, now, o); got != plainExpired(at, now, o) {
			t.Fatalf("Expired(%d, %v, %v): %v", at, now, o.Period, got)
		}
	}
}

// roomy has the same elements, and others behind its length.
func roomy[T any](l []T, behind T) []T {
	return append(slices.Clone(l), behind, behind, behind)[:len(l)]
}

// deep shares nothing, and has what lies behind the lengths too.
func deep(l api.Light) api.Light {
	l.Set, l.Next, l.Commit.Seals = whole(l.Set), whole(l.Next), whole(l.Commit.Seals)
	return l
}

func whole[T any](l []T) []T { return slices.Clone(l[:cap(l)]) }

// TestArgumentsStay: what is handed in is as it was, what lies behind it counts for nothing, and all is answered so again.
func TestArgumentsStay(t *testing.T) { // P2, rule 4
	r := random()
	for range 2000 {
		w := anyWorld(r)
		var pair [2]api.Light
		for i, l := range []api.Light{w.trusted.light(), w.l.light()} {
			l.Set, l.Next = roomy(l.Set, api.Validator{Key: math.MaxUint64, Power: 1}), roomy(l.Next, api.Validator{Key: math.MaxUint64, Power: 1})
			l.Commit.Seals = roomy(l.Commit.Seals, api.Seal{Key: math.MaxUint64})
			pair[i] = l
		}
		before := [2]api.Light{deep(pair[0]), deep(pair[1])}
		e := verify.Step(pair[0], pair[1], w.now, w.o)
		if want := plainStep(w.trusted.light(), w.l.light(), w.now, w.o); e != want {
			t.Fatalf("with room: %d, not %d", e, want)
		}
		s := verify.Sound("a", pair[1])
		if !reflect.DeepEqual(before, [2]api.Light{deep(pair[0]), deep(pair[1])}) {
			t.Fatal("an argument was written into")
		}
		if verify.Step(pair[0], pair[1], w.now, w.o) != e || verify.Sound("a", pair[1]) != s {
			t.Fatal("another answer")
		}
	}
}

// TestEnds: any arguments are answered, and none of these is accepted.
func TestEnds(t *testing.T) { // P1
	long := string(bytes.Repeat([]byte("a"), 1<<20))
	lights := []api.Light{
		{}, first().light(), adjacent().l.light(), distant().l.light(),
		{Header: api.Header{Chain: long, Height: math.MaxInt, Time: math.MaxInt}, Commit: api.Commit{Height: math.MinInt, Round: math.MaxInt, Seals: make([]api.Seal, 1<<18)}, Set: make([]api.Validator, 1<<18), Next: make([]api.Validator, 1<<18)},
		{Header: api.Header{Chain: "a", Height: math.MinInt, Time: math.MinInt}, Set: []api.Validator{{Power: math.MinInt}}, Next: []api.Validator{{Power: math.MaxInt}, {Key: 1, Power: math.MaxInt}}},
		{Header: api.Header{Chain: "a", Height: 9, Time: 1 << 39}, Commit: api.Commit{Height: 9, Seals: make([]api.Seal, 64)}, Set: make([]api.Validator, 64), Next: make([]api.Validator, 64)},
	}
	o := api.Options{Level: 0.5, Period: infinity, Drift: infinity}
	for i, l := range lights {
		for _, chain := range []string{"", "a", "\x00", long} {
			if e := verify.Sound(chain, l); e != plainSound(chain, l) {
				t.Errorf("Sound of %d: %d", i, e)
			}
		}
		for k, trusted := range lights {
			for _, o := range append(wrongOptions(), o) {
				e := verify.Step(trusted, l, 25, o)
				if e != plainStep(trusted, l, 25, o) || e == api.OK && (k != 1 || i != 2 && i != 3) {
					t.Errorf("Step of %d from %d, %v: %d", i, k, o, e)
				}
			}
		}
	}
}
