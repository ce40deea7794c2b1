package client_test

import (
	"math"
	"reflect"
	"slices"
	"testing"

	"nuncio/api"
	"nuncio/client"
)

func TestNew(t *testing.T) { // P19.1 (L1)
	chain := chainOf(40, sliding)
	for h := 1; h <= 40; h++ {
		shows(t, begun(t, chain[h], late, half()), chain, h)
	}
	for _, chain := range []string{"b", "abcdefghijklmnop"} {
		for _, height := range []int{1, api.MaxHeight - 1, api.MaxHeight} {
			l := block(9, api.Hash{}, always(0), always(1))
			l = bent(l, always, func(h *api.Header) { h.Chain, h.Height = chain, height })
			c := begun(t, l, 90, half())
			if got := look(t, c); !isSame(got, view{height, chain, false, map[int]api.Hash{height: l.Header.App}}) {
				t.Errorf("height %d of %s: %+v", height, chain, got)
			}
		}
	}
}

// TestEmptyRoots: an App hash that is the empty one is kept as any other one is.
func TestEmptyRoots(t *testing.T) { // P19.1 (L1)
	chain := chainOf(5, always)
	bare := func(l api.Light) api.Light { return bent(l, always, func(h *api.Header) { h.App = api.Hash{} }) }
	c := begun(t, bare(chain[1]), late, half())
	update(t, c, chain[3], late, api.OK)
	update(t, c, bare(chain[5]), late, api.OK)
	if got := look(t, c); !isSame(got, view{5, "a", false, map[int]api.Hash{1: {}, 3: chain[3].Header.App, 5: {}}}) {
		t.Errorf("%+v", got)
	}
	if e := c.Absent(1, "k", api.Proof{}); e != api.ErrProof {
		t.Errorf("Absent, of a root that no entries have: %d", e)
	}
}

// TestNewTimes: the root may lie ahead of the clock, as far as it will, but not behind it by the period. Its time is 50.
func TestNewTimes(t *testing.T) { // P19.1 (L1)
	root := block(5, api.Hash{}, always(0), always(0))
	for _, c := range []struct {
		now, period float64
		want        api.Errno
	}{
		{50, tiny, api.OK}, {above(50), tiny, api.ErrExpired}, {150, 100, api.ErrExpired}, {below(150), 100, api.OK}, {150, above(100), api.OK}, {150, below(100), api.ErrExpired},
		{0, tiny, api.OK}, {-1e300, tiny, api.OK}, {-math.MaxFloat64, tiny, api.OK}, {math.MaxFloat64, infinity, api.OK}, {math.MaxFloat64, math.MaxFloat64, api.ErrExpired},
	} {
		for _, drift := range []float64{0, 5, infinity} {
			x, e := client.New(root, c.now, api.Options{Level: 0.5, Period: c.period, Drift: drift})
			if e != c.want || (x != nil) != (e == api.OK) {
				t.Errorf("at %v, period %v: %v, %d, not %d", c.now, c.period, x, e, c.want)
			}
		}
	}
}

func wrongOptions() []api.Options {
	l := []api.Options{{}}
	for _, f := range append(strange(), below(1.0/3), 0, -0.5, above(1)) {
		l = append(l, api.Options{Level: f, Period: 1000, Drift: 5})
	}
	nan := math.NaN()
	for _, f := range []float64{nan, 0, -tiny, belowAll} {
		l = append(l, api.Options{Level: 0.5, Period: f, Drift: 5})
	}
	for _, f := range []float64{nan, -tiny, belowAll} {
		l = append(l, api.Options{Level: 0.5, Period: 1000, Drift: f})
	}
	return l
}

// flaw is what makes a block unsound by itself, whatever it is held against; rank is its error's place in the order.
type flaw struct {
	name string
	rank int
	want api.Errno
	make func(*api.Light)
}

// flaws are of blocks whose set is that of always.
func flaws() []flaw {
	return []flaw{
		{"no name", 2, api.ErrForm, func(l *api.Light) { l.Header.Chain = "" }},
		{"name", 2, api.ErrForm, func(l *api.Light) { l.Header.Chain = "A" }},
		{"round", 2, api.ErrForm, func(l *api.Light) { l.Commit.Round = -1 }},
		{"5000 seals", 2, api.ErrForm, func(l *api.Light) { l.Commit.Seals = make([]api.Seal, 5000) }},
		{"no commit", 2, api.ErrForm, func(l *api.Light) { l.Commit = api.Commit{} }},
		{"no set", 3, api.ErrSet, func(l *api.Light) { l.Set = nil }},
		{"set", 3, api.ErrSet, func(l *api.Light) { l.Set = slices.Clone(l.Set); slices.Reverse(l.Set) }},
		{"next", 3, api.ErrSet, func(l *api.Light) { l.Next = slices.Clone(l.Next); l.Next[0].Power = 0 }},
		{"set's hash", 4, api.ErrSetHash, func(l *api.Light) { l.Header.Set[31] ^= 1 }},
		{"next's hash", 4, api.ErrSetHash, func(l *api.Light) { l.Header.Next[0] ^= 1 }},
		{"commit's height", 5, api.ErrCommit, func(l *api.Light) { l.Commit.Height++ }},
		{"commit's block", 5, api.ErrCommit, func(l *api.Light) { l.Header.App[9]++ }},
		{"half of the power", 5, api.ErrCommit, func(l *api.Light) { l.Commit = commitOf(l.Header, 0, 1, 2) }},
		{"a seal", 5, api.ErrCommit, func(l *api.Light) { l.Commit.Seals = slices.Clone(l.Commit.Seals); l.Commit.Seals[1].Sig.S ^= 1 }},
		{"no seals", 5, api.ErrCommit, func(l *api.Light) { l.Commit.Seals = nil }},
	}
}

// call is one of New; fault makes one thing of it wrong.
type call struct {
	root api.Light
	now  float64
	o    api.Options
}

type fault struct {
	name string
	rank int
	want api.Errno
	make func(*call)
}

func newFaults() []fault {
	var l []fault
	for _, o := range wrongOptions() {
		l = append(l, fault{"options", 0, api.ErrOptions, func(c *call) { c.o = o }})
	}
	for _, now := range strange() {
		l = append(l, fault{"clock", 1, api.ErrClock, func(c *call) { c.now = now }})
	}
	for _, f := range flaws() {
		l = append(l, fault{f.name, f.rank, f.want, func(c *call) { f.make(&c.root) }})
	}
	for _, h := range []int{math.MinInt, -1, 0, api.MaxHeight + 1, math.MaxInt} {
		l = append(l, fault{"height", 2, api.ErrForm, func(c *call) { c.root.Header.Height = h }})
	}
	return append(l, fault{"expired", 6, api.ErrExpired, func(c *call) { c.o.Period = 1 }})
}

// TestNewFaults: each one alone, and of two the one that is named first.
func TestNewFaults(t *testing.T) { // P19.1 (L1), P1, rules 1 and 2
	begin := func() call { return call{block(5, api.Hash{}, always(0), always(0)), 55, half()} }
	expect := func(name string, c call, want api.Errno) {
		t.Helper()
		if x, e := client.New(c.root, c.now, c.o); x != nil || e != want {
			t.Errorf("%s: %v, %d, not %d", name, x, e, want)
		}
	}
	faults := newFaults()
	for _, f := range faults {
		c := begin()
		f.make(&c)
		expect(f.name, c, f.want)
		for _, g := range faults {
			if f.rank < g.rank {
				c := begin()
				g.make(&c)
				f.make(&c)
				expect(f.name+", and "+g.name, c, f.want)
			}
		}
	}
	expect("nothing", call{}, api.ErrOptions)
	expect("no root", call{o: half()}, api.ErrForm)
}

func TestUpdate(t *testing.T) { // P19.1 (L1)
	chain := chainOf(40, sliding)
	for _, at := range [][]int{{1, 2}, {1, 3}, {5, 6, 7, 8, 9, 10}, {1, 3, 5, 7, 9, 11, 13}, {4, 5, 7, 8, 10, 11, 12, 14}, {38, 39, 40}} {
		for n := range at {
			shows(t, grown(t, chain, at[:n+1]...), chain, at[:n+1]...)
		}
	}
	stay := chainOf(40, always)
	shows(t, grown(t, stay, 1, 40), stay, 1, 40)
	shows(t, grown(t, stay, 1, 2, 39), stay, 1, 2, 39)
}

// TestStepFromFront: a step goes from the block that came last, from none of those ahead of it, and only on.
func TestStepFromFront(t *testing.T) { // P19.1 (L1), P19.2
	chain := chainOf(20, sliding)
	c := begun(t, chain[1], late, half())
	at := []int{1}
	for _, front := range []int{1, 3, 4, 6, 8} {
		if front > 1 {
			update(t, c, chain[front], late, api.OK)
			at = append(at, front)
		}
		for h := 1; h <= front; h++ {
			update(t, c, chain[h], late, api.ErrOrder)
		}
		for h := front + 3; h <= 20; h++ {
			update(t, c, chain[h], late, api.ErrTrust)
		}
		shows(t, c, chain, at...)
	}
	update(t, c, chain[10], late, api.OK)
}

// TestUpdateTimes: it is the front's time that expires, by New's options; and one that is not brought on in time never goes on.
func TestUpdateTimes(t *testing.T) { // P19.1 (L1)
	chain := chainOf(40, always)
	o := api.Options{Level: 0.5, Period: 100, Drift: 5}
	c := begun(t, chain[1], 15, o)
	update(t, c, chain[2], below(15), api.ErrFuture)
	update(t, c, chain[2], 110, api.ErrExpired)
	shows(t, c, chain, 1)
	update(t, c, chain[2], 15, api.OK)
	update(t, c, chain[3], 120, api.ErrExpired)
	update(t, c, chain[11], below(120), api.OK)
	update(t, c, chain[12], 209, api.OK)
	update(t, c, chain[13], 220, api.ErrExpired)
	update(t, c, chain[30], 1e9, api.ErrExpired)
	shows(t, c, chain, 1, 2, 11, 12)
	// A clock may go back.
	update(t, c, chain[13], 130, api.OK)
	shows(t, c, chain, 1, 2, 11, 12, 13)
}

// TestUpdateLevels: by New's level.
func TestUpdateLevels(t *testing.T) { // P19.1 (L1), T2
	chain := chainOf(9, sliding)
	// Of the next height's four sign so many: three at a leap of two heights, two of three, one of four.
	for _, x := range []struct {
		level float64
		leap  int
	}{{1, 1}, {0.75, 1}, {below(0.75), 2}, {0.5, 2}, {below(0.5), 3}, {1.0 / 3, 3}} {
		c := begun(t, chain[1], late, api.Options{Level: x.level, Period: 1e6, Drift: 5})
		for h := 9; h > 1+x.leap; h-- {
			update(t, c, chain[h], late, api.ErrTrust)
		}
		update(t, c, chain[1+x.leap], late, api.OK)
		shows(t, c, chain, 1, 1+x.leap)
	}
}

// refusal is a block that may not be taken in at its height, or the right one at a strange time.
type refusal struct {
	name string
	want api.Errno
	now  float64
	make func(*api.Light)
}

func refusals() []refusal {
	l := []refusal{
		{"expired", api.ErrExpired, 1e9, func(l *api.Light) {}},
		{"the future", api.ErrFuture, 20, func(l *api.Light) {}},
		{"a time that falls", api.ErrOrder, late, func(l *api.Light) { *l = bent(*l, always, func(h *api.Header) { h.Time = 10 }) }},
		{"the front's time", api.ErrOrder, late, func(l *api.Light) { *l = bent(*l, always, func(h *api.Header) { h.Time = 40 }) }},
		{"the front's height", api.ErrOrder, late, func(l *api.Light) { *l = bent(*l, always, func(h *api.Header) { h.Height = 4 }) }},
		{"no height", api.ErrOrder, late, func(l *api.Light) { l.Header.Height = math.MinInt }},
		{"a great height", api.ErrForm, late, func(l *api.Light) { l.Header.Height = api.MaxHeight + 1 }},
		{"another chain", api.ErrChain, late, func(l *api.Light) { *l = bent(*l, always, func(h *api.Header) { h.Chain = "b" }) }},
		{"strangers' next set, by its hash alone", api.ErrSetHash, late, func(l *api.Light) { l.Next = setOf(7, 8) }},
	}
	for _, f := range flaws() {
		l = append(l, refusal{f.name, f.want, late, f.make})
	}
	for _, now := range strange() {
		l = append(l, refusal{"a clock", api.ErrClock, now, func(l *api.Light) {}})
	}
	return l
}

// TestUpdateRefused: each error of Step, at the next height and by a leap: nothing changes, and what may be goes on from the front that was.
func TestUpdateRefused(t *testing.T) { // P19.1 (L1), P19.2, rule 3
	chain := chainOf(20, always)
	for _, x := range refusals() {
		for _, h := range []int{5, 9} {
			c := grown(t, chain, 1, 4)
			l := roomy(chain[h])
			x.make(&l)
			unchanged(t, c, x.name, func() { update(t, c, l, x.now, x.want) })
			shows(t, c, chain, 1, 4)
			update(t, c, chain[5], late, api.OK)
			update(t, c, chain[9], late, api.OK)
			shows(t, c, chain, 1, 4, 5, 9)
		}
	}
}

// TestUpdateStrangers: blocks that are sound, but that nobody who is trusted vouches for.
func TestUpdateStrangers(t *testing.T) { // P19.1 (L1), P19.2, T2
	chain := chainOf(20, always)
	c := grown(t, chain, 1, 4)
	strangers := func(int) []uint64 { return []uint64{7, 8} }
	unchanged(t, c, "strangers", func() {
		update(t, c, block(5, chain[4].Commit.Block, strangers(0), strangers(0)), late, api.ErrSetHash)
		update(t, c, bent(chain[5], always, func(h *api.Header) { h.Last[3]++ }), late, api.ErrOrder)
		update(t, c, block(6, chain[5].Commit.Block, strangers(0), always(0)), late, api.ErrTrust)
		// Of four two sign, and three of a set that is not the trusted one: two are not more than half of that.
		mixed := block(6, chain[5].Commit.Block, []uint64{1, 2, 7}, always(0))
		update(t, c, mixed, late, api.ErrTrust)
	})
	update(t, c, chain[5], late, api.OK)
	update(t, c, chain[6], late, api.OK)
	shows(t, c, chain, 1, 4, 5, 6)
}

// TestTwoBranches: of two blocks that both may be taken in the first one counts, with its next set.
func TestTwoBranches(t *testing.T) { // P19.1 (L1), P19.2
	chain := chainOf(9, always)
	other := block(5, chain[4].Commit.Block, always(0), []uint64{5, 6, 7, 8})
	other = bent(other, always, func(h *api.Header) { h.App = api.Hash{77} })
	newcomers := block(6, other.Commit.Block, []uint64{5, 6, 7, 8}, []uint64{5, 6, 7, 8})
	c, d := grown(t, chain, 4), grown(t, chain, 4)
	update(t, c, chain[5], late, api.OK)
	update(t, c, other, late, api.ErrOrder)
	update(t, c, newcomers, late, api.ErrSetHash)
	update(t, c, chain[6], late, api.OK)
	shows(t, c, chain, 4, 5, 6)
	update(t, d, other, late, api.OK)
	update(t, d, chain[5], late, api.ErrOrder)
	update(t, d, chain[6], late, api.ErrSetHash)
	update(t, d, chain[7], late, api.ErrTrust)
	update(t, d, newcomers, late, api.OK)
	if got := look(t, d); !isSame(got, view{6, "a", false, map[int]api.Hash{4: chain[4].Header.App, 5: {77}, 6: newcomers.Header.App}}) {
		t.Errorf("%+v", got)
	}
}

// rivals are sound blocks of a block's height with another header: one for each field, and one of strangers.
func rivals(l api.Light) []api.Light {
	list := []api.Light{block(l.Header.Height, api.Hash{}, []uint64{8, 9}, []uint64{10})}
	for _, f := range []func(*api.Header){
		func(h *api.Header) { h.Time++ },
		func(h *api.Header) { h.Time = 0 },
		func(h *api.Header) { h.Time = api.MaxHeight },
		func(h *api.Header) { h.Last[31]++ },
		func(h *api.Header) { h.Data[0]++ },
		func(h *api.Header) { h.App[31]++ },
	} {
		list = append(list, bent(l, always, f))
	}
	next, set := l, l
	next.Next = setOf(1, 2, 3)
	set.Set = setOf(1, 2, 3, 4, 5)
	return append(list, sealed(next, always(0)...), sealed(set, always(0)...))
}

// TestBlame: the client is frozen, for ever.
func TestBlame(t *testing.T) { // P19.1 (L2)
	chain := chainOf(12, always)
	for _, at := range [][]int{{6}, {1, 6}, {1, 2, 4, 5, 6}} {
		for _, l := range rivals(chain[6]) {
			c := grown(t, chain, at...)
			blame(t, c, l, api.OK)
			isFrozen(t, c, 6)
			staysFrozen(t, c, chain)
		}
	}
}

// staysFrozen: whatever a client is asked that is frozen at height 6.
func staysFrozen(t *testing.T, c *client.Client, chain []api.Light) {
	t.Helper()
	for _, now := range append(strange(), late, 65) {
		for _, l := range append(chain, rivals(chain[6])...) {
			update(t, c, l, now, api.ErrExpired)
		}
	}
	blame(t, c, chain[6], api.ErrMatch)
	blame(t, c, chain[5], api.ErrMatch)
	blame(t, c, rivals(chain[6])[0], api.OK)
	isFrozen(t, c, 6)
	for _, h := range askedHeights() {
		for _, key := range []string{"k0", "k1", "z", ""} {
			for _, p := range []api.Proof{proofOf(state(6), key), {}} {
				if e := c.Member(h, key, "6", p); e != api.ErrRoot {
					t.Errorf("Member at %d: %d", h, e)
				}
				if e := c.Absent(h, key, p); e != api.ErrRoot {
					t.Errorf("Absent at %d: %d", h, e)
				}
			}
		}
	}
}

// TestBlameRefused: another height, the same header, or what is not sound.
func TestBlameRefused(t *testing.T) { // P19.1 (L2), rule 3
	chain := chainOf(12, always)
	c := grown(t, chain, 1, 4, 6)
	refused := func(name string, l api.Light) {
		t.Helper()
		unchanged(t, c, name, func() { blame(t, c, l, api.ErrMatch) })
	}
	for h, l := range chain {
		refused("a block of the chain", l)
		if h > 0 && h != 6 {
			for _, x := range rivals(l) {
				refused("another height", x)
			}
		}
	}
	same := chain[6]
	for _, commit := range []api.Commit{{}, commitOf(same.Header, 0, 1, 2, 3), commitOf(same.Header, 3, 1, 2, 3, 4)} {
		same.Commit = commit
		refused("the same header", same)
	}
	same.Set, same.Next = nil, setOf(9)
	refused("the same header", same)
	for _, l := range rivals(chain[6])[1:] {
		for _, f := range flaws() {
			x := roomy(l)
			f.make(&x)
			refused(f.name, x)
		}
		refused("another chain", bent(l, always, func(h *api.Header) { h.Chain = "b" }))
		for _, h := range []int{math.MinInt, -1, 0, 5, 7, api.MaxHeight + 1, math.MaxInt} {
			x := l
			x.Header.Height = h
			refused("a strange height", x)
		}
	}
	refused("nothing", api.Light{})
	update(t, c, chain[7], late, api.OK)
	shows(t, c, chain, 1, 4, 6, 7)
	refused("what was the front", rivals(chain[6])[0])
	blame(t, c, rivals(chain[7])[0], api.OK)
	isFrozen(t, c, 7)
}

// TestBlameAnyTime: a front that is long over is frozen too.
func TestBlameAnyTime(t *testing.T) { // P19.1 (L2)
	chain := chainOf(3, always)
	c := begun(t, chain[2], 20, api.Options{Level: 1, Period: tiny})
	update(t, c, chain[3], above(20), api.ErrExpired)
	blame(t, c, bent(chain[2], always, func(h *api.Header) { h.Time = 0 }), api.OK)
	isFrozen(t, c, 2)
}

// TestNil: ErrArg, and nothing.
func TestNil(t *testing.T) { // P19.1 (L3), P1, rule 8
	var c *client.Client
	chain := chainOf(3, always)
	for _, now := range append(strange(), 0, late) {
		for _, l := range chain {
			update(t, c, l, now, api.ErrArg)
			blame(t, c, l, api.ErrArg)
		}
	}
	for _, h := range askedHeights() {
		if root, e := c.Root(h); root != (api.Hash{}) || e != api.ErrArg {
			t.Errorf("Root(%d): %x, %d", h, root, e)
		}
		if e := c.Member(h, "k0", "1", proofOf(state(1), "k0")); e != api.ErrArg {
			t.Errorf("Member at %d: %d", h, e)
		}
		if e := c.Absent(h, "k0", api.Proof{}); e != api.ErrArg {
			t.Errorf("Absent at %d: %d", h, e)
		}
	}
	if c.Height() != 0 || c.Chain() != "" || c.Frozen() || c.Copy() != nil {
		t.Error("a nil client has something")
	}
}

// TestNotGiven: a client that New did not give has nothing, and trusts nothing.
func TestNotGiven(t *testing.T) { // P1
	var c client.Client
	chain := chainOf(3, always)
	for _, now := range append(strange(), 0, late) {
		for _, l := range chain {
			if e := c.Update(l, now); e == api.OK {
				t.Error("Update without a root")
			}
			blame(t, &c, l, api.ErrMatch)
		}
	}
	if got := look(t, c.Copy()); !isSame(got, view{}) {
		t.Errorf("%+v", got)
	}
}

// TestCopy: both are the same, and apart.
func TestCopy(t *testing.T) { // P19.1 (L1)
	chain := chainOf(20, sliding)
	c := grown(t, chain, 1, 3)
	d := c.Copy()
	if d == nil || d == c {
		t.Fatal("no other client")
	}
	shows(t, d, chain, 1, 3)
	update(t, d, chain[6], late, api.ErrTrust)
	update(t, d, chain[5], late, api.OK)
	shows(t, c, chain, 1, 3)
	update(t, c, chain[4], late, api.OK)
	update(t, c, chain[6], late, api.OK)
	shows(t, d, chain, 1, 3, 5)
	x := d.Copy()
	blame(t, d, bent(chain[5], sliding, func(h *api.Header) { h.App[0]++ }), api.OK)
	isFrozen(t, d, 5)
	shows(t, c, chain, 1, 3, 4, 6)
	shows(t, x, chain, 1, 3, 5)
	f := d.Copy()
	isFrozen(t, f, 5)
	update(t, f, chain[6], late, api.ErrExpired)
	blame(t, c, bent(chain[6], sliding, func(h *api.Header) { h.Time++ }), api.OK)
	isFrozen(t, c, 6)
	update(t, x, chain[7], late, api.OK)
	shows(t, x, chain, 1, 3, 5, 7)
}

// TestCopyOptions: a copy goes by the same options.
func TestCopyOptions(t *testing.T) { // P19.1 (L1)
	chain := chainOf(9, sliding)
	c := begun(t, chain[1], 15, api.Options{Level: 0.75, Period: 100, Drift: 5}).Copy()
	update(t, c, chain[3], 30, api.ErrTrust)
	update(t, c, chain[2], 14, api.ErrFuture)
	update(t, c, chain[2], 110, api.ErrExpired)
	update(t, c, chain[2], 15, api.OK)
	shows(t, c, chain, 1, 2)
}

// TestKeptApart: what was handed in may be written into, and nobody can tell; and it is not written into.
func TestKeptApart(t *testing.T) { // rule 4
	chain := chainOf(20, sliding)
	root := roomy(chain[1])
	was := whole(root)
	c := begun(t, root, late, half())
	handed := func(l, was api.Light) {
		t.Helper()
		if !reflect.DeepEqual(whole(l), was) {
			t.Error("an argument was written into")
		}
		spoil(l)
	}
	handed(root, was)
	for _, h := range []int{3, 5, 6, 8} {
		d := c.Copy()
		l := roomy(chain[h])
		was := whole(l)
		update(t, c, l, late, api.OK)
		handed(l, was)
		l = roomy(chain[h])
		update(t, d, l, late, api.OK)
		handed(l, was)
		l = roomy(chain[h])
		blame(t, c, l, api.ErrMatch)
		handed(l, was)
		l = roomy(bent(chain[h], sliding, func(h *api.Header) { h.App[0]++ }))
		was = whole(l)
		blame(t, d, l, api.OK)
		handed(l, was)
	}
	shows(t, c, chain, 1, 3, 5, 6, 8)
}

// TestLong: very many heights are kept, and each is asked for in little time.
func TestLong(t *testing.T) { // P1, P19.1 (L1)
	const many = 1500
	l := block(1, api.Hash{}, []uint64{1}, []uint64{1})
	c := begun(t, l, late, half())
	for h := 2; h <= many; h++ {
		l = block(h, l.Commit.Block, []uint64{1}, []uint64{1})
		update(t, c, l, late, api.OK)
	}
	for h := 1; h <= many; h++ {
		if root, e := c.Root(h); root != rootOf(state(h)) || e != api.OK {
			t.Fatalf("Root(%d): %x, %d", h, root, e)
		}
	}
	if _, e := c.Root(many + 1); e != api.ErrRoot {
		t.Errorf("Root: %d", e)
	}
}
