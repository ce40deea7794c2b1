package bisect_test

import (
	"math"
	"slices"
	"testing"

	"nuncio/api"
	"nuncio/bisect"
)

// TestMostFetches: 200 may be, the next one gives the goal up.
func TestMostFetches(t *testing.T) { // P16.1 (D3), P16.4
	chain := chainOf(420, apart)
	c := going(t, chain[1], half(), 1+api.MaxFetch)
	if n := len(follow(t, c, chain)); n != api.MaxFetch || c.Fetches() != api.MaxFetch || len(c.Store()) != api.MaxFetch+1 {
		t.Fatalf("%d given, %d fetches, %d trusted", n, c.Fetches(), len(c.Store()))
	}
	// They begin anew with each goal.
	aim(t, c, 2+2*api.MaxFetch)
	for range api.MaxFetch {
		give(t, c, chain[c.Want()], late, api.OK)
	}
	was := look(c)
	if was.fetches != api.MaxFetch || was.want != 2*api.MaxFetch+1 || len(was.store) != 2*api.MaxFetch || len(was.trace) != api.MaxFetch {
		t.Fatalf("%d fetches, wants %d, %d trusted, %d of them since", was.fetches, was.want, len(was.store), len(was.trace))
	}
	unchanged(t, c, "ErrFetch is ahead of ErrSteps", func() {
		give(t, c, chain[was.want+1], late, api.ErrFetch)
		give(t, c, api.Light{Header: api.Header{Chain: "b", Height: was.want}}, late, api.ErrFetch)
	})
	give(t, c, chain[was.want], late, api.ErrSteps)
	if got := look(c); !isSame(got, view{0, api.MaxFetch, was.store, was.trace}) {
		t.Fatalf("behind ErrSteps: %d fetches, wants %d, %d trusted, %d of them since", got.fetches, got.want, len(got.store), len(got.trace))
	}
	give(t, c, chain[was.want], late, api.ErrFetch)
	aim(t, c, was.want+1)
	if wanted := follow(t, c, chain); !slices.Equal(wanted, []int{was.want + 1, was.want}) {
		t.Errorf("wanted %v", wanted)
	}
}

// TestMostFetchesFirst: ErrSteps is ahead of what is wrong with the block and the clock.
func TestMostFetchesFirst(t *testing.T) { // P16.1 (D3), rule 1
	chain := chainOf(203, apart)
	for _, x := range append(lies(), lie{"unsigned", api.OK, math.NaN(), func(l *api.Light) { *l = api.Light{Header: l.Header} }}) {
		c := going(t, chain[1], half(), 202)
		for range api.MaxFetch {
			give(t, c, chain[c.Want()], late, api.OK)
		}
		l := chain[c.Want()]
		x.make(&l)
		give(t, c, l, x.now, api.ErrSteps)
		if c.Want() != 0 || c.Fetches() != api.MaxFetch || len(c.Store()) != 200 {
			t.Errorf("%s: wants %d, %d fetches, %d trusted", x.name, c.Want(), c.Fetches(), len(c.Store()))
		}
	}
}

// TestFewFetches: each crew, level, root and goal.
func TestFewFetches(t *testing.T) { // P16.2, P16.3, T7
	for i, who := range []crew{always, apart, sliding, slow, turned} {
		chain := chainOf(40, who)
		for _, level := range []float64{1.0 / 3, 0.5, 0.7, 1} {
			o := api.Options{Level: level, Period: 1e6, Drift: 0}
			for root := 1; root < 40; root += 3 {
				for goal := root + 1; goal <= 40; goal++ {
					c := going(t, chain[root], o, goal)
					n := len(follow(t, c, chain))
					if n > 2*(goal-root)-1 || n != c.Fetches() {
						t.Errorf("crew %d, level %v, from %d to %d: %d given, %d fetches", i, level, root, goal, n, c.Fetches())
					}
					reached(t, c, chain, root, goal)
				}
			}
		}
	}
}

// reached: the store goes from the root to the goal, all of it the chain's, and the trace is that.
func reached(t *testing.T, c *bisect.Client, chain []api.Light, root, goal int) {
	t.Helper()
	store := heights(c.Store())
	if store[0] != root || store[len(store)-1] != goal || !slices.IsSorted(store) || len(slices.Compact(store)) != len(c.Store()) {
		t.Fatalf("from %d to %d: %v", root, goal, store)
	}
	shows(t, c, chain, 0, c.Fetches(), store, store)
}

func TestTrace(t *testing.T) { // P16.1 (D4)
	chain := chainOf(30, sliding)
	c := client(t, chain[3], late, half())
	shows(t, c, chain, 0, 0, []int{3}, nil)
	aim(t, c, 9)
	shows(t, c, chain, 9, 0, []int{3}, []int{3})
	give(t, c, chain[9], late, api.OK)
	shows(t, c, chain, 6, 1, []int{3}, []int{3})
	give(t, c, chain[6], late, api.OK)
	shows(t, c, chain, 4, 2, []int{3}, []int{3})
	give(t, c, chain[4], late, api.OK)
	shows(t, c, chain, 7, 3, []int{3, 4, 6}, []int{3, 4, 6})
	give(t, c, chain[7], late, api.OK)
	shows(t, c, chain, 0, 4, []int{3, 4, 6, 7, 9}, []int{3, 4, 6, 7, 9})
	aim(t, c, 11)
	shows(t, c, chain, 11, 0, []int{3, 4, 6, 7, 9}, []int{9})
	give(t, c, chain[11], late, api.OK)
	shows(t, c, chain, 0, 1, []int{3, 4, 6, 7, 9, 11}, []int{9, 11})
	aim(t, c, 20)
	give(t, c, chain[20], math.NaN(), api.ErrClock)
	shows(t, c, chain, 0, 1, []int{3, 4, 6, 7, 9, 11}, []int{11})
}

func TestPrune(t *testing.T) { // P16.1 (D4)
	chain := chainOf(30, sliding)
	all := []int{1, 3, 5, 7, 9}
	for _, n := range []int{1, 2, 3, 4, 5, 6, 100, math.MaxInt} {
		c := going(t, chain[1], half(), 9)
		follow(t, c, chain)
		if e := c.Prune(n); e != api.OK {
			t.Errorf("Prune(%d): %d", n, e)
		}
		left := all[len(all)-min(n, len(all)):]
		shows(t, c, chain, 0, 4, left, nil)
		if e := c.Goal(9); e != api.ErrOrder {
			t.Errorf("Goal of the last one's height: %d", e)
		}
		aim(t, c, 11)
		give(t, c, chain[11], late, api.OK)
		shows(t, c, chain, 0, 1, append(slices.Clone(left), 11), []int{9, 11})
		if e := c.Prune(1); e != api.OK {
			t.Errorf("Prune(1): %d", e)
		}
		shows(t, c, chain, 0, 1, []int{11}, nil)
	}
	c := client(t, chain[1], late, half())
	if e := c.Prune(1); e != api.OK {
		t.Errorf("Prune of the root: %d", e)
	}
	shows(t, c, chain, 0, 0, []int{1}, nil)
}

// TestPruneGivesUp: a goal, with what pends for it.
func TestPruneGivesUp(t *testing.T) { // P16.1 (D4)
	chain := chainOf(30, sliding)
	for _, n := range []int{1, 2, 3, 9} {
		for done := range 5 {
			c := going(t, chain[1], half(), 17)
			for range done {
				give(t, c, chain[c.Want()], late, api.OK)
			}
			store := []int{1, 3, 5}
			if done < 4 {
				store = store[:1]
			}
			wanted := c.Want()
			store = store[len(store)-min(n, len(store)):]
			if e := c.Prune(n); e != api.OK {
				t.Fatalf("Prune(%d): %d", n, e)
			}
			shows(t, c, chain, 0, done, store, nil)
			give(t, c, chain[wanted], late, api.ErrFetch)
			last := store[len(store)-1]
			aim(t, c, last+2)
			give(t, c, chain[last+2], late, api.OK)
			shows(t, c, chain, 0, 1, append(slices.Clone(store), last+2), []int{last, last + 2})
		}
	}
}

func TestPruneFaults(t *testing.T) { // P16.1 (D4), P1, rule 3
	chain := chainOf(30, sliding)
	c := client(t, chain[1], late, half())
	refused := func() {
		t.Helper()
		unchanged(t, c, "Prune", func() {
			for _, n := range []int{0, -1, -5, math.MinInt} {
				if e := c.Prune(n); e != api.ErrArg {
					t.Errorf("Prune(%d): %d", n, e)
				}
			}
		})
	}
	refused()
	aim(t, c, 9)
	for _, h := range []int{9, 5, 3, 7} {
		refused()
		give(t, c, chain[h], late, api.OK)
	}
	refused()
	shows(t, c, chain, 0, 4, []int{1, 3, 5, 7, 9}, []int{1, 3, 5, 7, 9})
}

func TestNil(t *testing.T) { // P16.1 (D4), P1, rule 8
	var c *bisect.Client
	for _, n := range []int{math.MinInt, -1, 0, 1, 5, api.MaxHeight + 1} {
		if e := c.Goal(n); e != api.ErrArg {
			t.Errorf("Goal(%d): %d", n, e)
		}
		if e := c.Prune(n); e != api.ErrArg {
			t.Errorf("Prune(%d): %d", n, e)
		}
	}
	for _, now := range append(strange(), 0, late) {
		give(t, c, api.Light{}, now, api.ErrArg)
		give(t, c, block(1, api.Hash{}, always(0), always(0)), now, api.ErrArg)
	}
	if got := look(c); !isSame(got, view{}) {
		t.Errorf("%+v", got)
	}
}

// TestNotGiven: a client that New did not give has nothing, and comes to nothing.
func TestNotGiven(t *testing.T) { // P1
	var c bisect.Client
	if e := c.Goal(1); e == api.OK {
		t.Error("a goal without a root")
	}
	give(t, &c, api.Light{}, 0, api.ErrFetch)
	c.Prune(1)
	if got := look(&c); !isSame(got, view{}) {
		t.Errorf("%+v", got)
	}
}

// deep is a block with lists of its own, ahead of other elements in their memory.
func deep(l api.Light) api.Light {
	l.Commit.Seals = slices.Concat(l.Commit.Seals, []api.Seal{{Key: 1}, {Key: 2}})[:len(l.Commit.Seals)]
	l.Set = slices.Concat(l.Set, []api.Validator{{Key: 3}, {Key: 4}})[:len(l.Set)]
	l.Next = slices.Concat(l.Next, []api.Validator{{Key: 5}, {Key: 6}})[:len(l.Next)]
	return l
}

// spoil writes into all of a block's lists, and behind their ends.
func spoil(l ...api.Light) {
	for _, x := range l {
		clear(x.Commit.Seals[:cap(x.Commit.Seals)])
		clear(x.Set[:cap(x.Set)])
		clear(x.Next[:cap(x.Next)])
	}
}

// TestKeptApart: what was handed in or answered may be written into, and nobody can tell.
func TestKeptApart(t *testing.T) { // P16.1 (D4), rule 4
	chain := chainOf(30, sliding)
	root := deep(chain[1])
	c := client(t, root, late, half())
	spoil(root)
	aim(t, c, 9)
	for i, h := range []int{9, 5, 3, 7} {
		spoil(c.Store()...)
		spoil(c.Trace()...)
		l := deep(chain[h])
		give(t, c, l, late, api.OK)
		shows(t, c, chain, c.Want(), i+1, heights(c.Store()), heights(c.Trace()))
		spoil(l)
		shows(t, c, chain, c.Want(), i+1, heights(c.Store()), heights(c.Trace()))
	}
	clear(c.Store())
	clear(c.Trace())
	shows(t, c, chain, 0, 4, []int{1, 3, 5, 7, 9}, []int{1, 3, 5, 7, 9})
	store, trace := c.Store(), c.Trace()
	spoil(trace...)
	spoil(c.Store()...)
	if e := c.Prune(2); e != api.OK || !areSame(store, chainBlocks(chain, 1, 3, 5, 7, 9)) {
		t.Errorf("Prune: %d, and what was answered ahead: %v", e, heights(store))
	}
	trace = append(c.Store()[:1], api.Light{})
	spoil(trace[0])
	shows(t, c, chain, 0, 4, []int{7, 9}, nil)
}

func chainBlocks(chain []api.Light, at ...int) []api.Light {
	var l []api.Light
	for _, h := range at {
		l = append(l, chain[h])
	}
	return l
}

// TestNotWritten: what is handed in stays, and so does what lies behind it.
func TestNotWritten(t *testing.T) { // rule 4
	chain := chainOf(30, sliding)
	handed := []api.Light{deep(chain[1])}
	c := client(t, handed[0], late, half())
	aim(t, c, 9)
	for _, h := range []int{9, 5, 3, 7} {
		handed = append(handed, deep(chain[h]))
		give(t, c, handed[len(handed)-1], late, api.OK)
	}
	spoil(c.Store()...)
	c.Prune(1)
	for i, h := range []int{1, 9, 5, 3, 7} {
		l := handed[i]
		n := len(l.Set)
		if !areSame(handed[i:i+1], chain[h:h+1]) || l.Set[:n+2][n+1].Key != 4 || l.Next[:n+2][n].Key != 5 || l.Commit.Seals[:n+2][n+1].Key != 2 {
			t.Errorf("height %d was written into", h)
		}
	}
}

// TestNoSharedLists: a block whose two sets lie in one memory has two where it is answered.
func TestNoSharedLists(t *testing.T) { // rule 4
	root, l := block(1, api.Hash{}, always(1), always(2)), block(2, api.Hash{}, always(2), always(3))
	l.Header.Last = root.Commit.Block
	l = sealed(l, always(2)...)
	root.Next, l.Set, l.Next = root.Set, root.Set, root.Set
	c := client(t, root, late, half())
	aim(t, c, 2)
	give(t, c, l, late, api.OK)
	for _, x := range [][]api.Light{c.Store(), c.Trace()} {
		x[0].Set[0].Power = 70
		x[1].Next[0].Power = 71
		if x[0].Next[0].Power != 1 || x[1].Set[0].Power != 1 || root.Set[0].Power != 1 {
			t.Errorf("lists that share memory: %+v", x)
		}
	}
}
