package bisect_test

import (
	"math"
	"slices"
	"testing"

	"nuncio/api"
	"nuncio/bisect"
)

func TestNew(t *testing.T) { // P16.1 (D1)
	for _, height := range []int{1, 2, 5, api.MaxHeight / 10} {
		root := block(height, api.Hash{9}, always(0), apart(1))
		c := client(t, root, 10*float64(height), half())
		if got := look(c); !isSame(got, view{store: []api.Light{root}}) {
			t.Errorf("height %d: %+v", height, got)
		}
		give(t, c, root, late, api.ErrFetch)
	}
	other := block(3, api.Hash{}, always(0), always(0))
	other.Header.Chain = "abcdefghijklmnop"
	other = sealed(other, always(0)...)
	if got := client(t, other, 30, half()).Store(); !areSame(got, []api.Light{other}) {
		t.Errorf("another chain: %+v", got)
	}
}

// TestNewTimes: the root may lie ahead of the clock, as far as it will, but not behind it by the period. Its time is 50.
func TestNewTimes(t *testing.T) { // P16.1 (D1)
	root := block(5, api.Hash{}, always(0), always(0))
	for _, c := range []struct {
		now, period float64
		want        api.Errno
	}{
		{50, tiny, api.OK}, {above(50), tiny, api.ErrExpired}, {150, 100, api.ErrExpired}, {below(150), 100, api.OK}, {150, above(100), api.OK}, {150, below(100), api.ErrExpired},
		{0, tiny, api.OK}, {-1e300, tiny, api.OK}, {-math.MaxFloat64, tiny, api.OK}, {math.MaxFloat64, infinity, api.OK}, {math.MaxFloat64, math.MaxFloat64, api.ErrExpired},
	} {
		for _, drift := range []float64{0, 5, infinity} {
			x, e := bisect.New(root, c.now, api.Options{Level: 0.5, Period: c.period, Drift: drift})
			if e != c.want || (x != nil) != (e == api.OK) {
				t.Errorf("at %v, period %v: %v, %d, not %d", c.now, c.period, x, e, c.want)
			}
		}
	}
}

// call is one of New.
type call struct {
	root api.Light
	now  float64
	o    api.Options
}

// fault makes one thing of a call wrong; rank is its error's place in D1's order.
type fault struct {
	name string
	rank int
	want api.Errno
	make func(*call)
}

func wrongOptions() []api.Options {
	l := []api.Options{{}}
	for _, f := range append(strange(), below(1.0/3), 0, -0.5, above(1)) {
		l = append(l, api.Options{Level: f, Period: 1000, Drift: 5})
	}
	nan := math.NaN()
	for _, f := range []float64{nan, 0, -tiny, belowAll} {
		l = append(l, api.Options{Level: 0.5, Period: f, Drift: 5})
	}
	for _, f := range []float64{nan, -tiny, belowAll} {
		l = append(l, api.Options{Level: 0.5, Period: 1000, Drift: f})
	}
	return l
}

func rootFaults() []fault {
	root := func(name string, rank int, want api.Errno, f func(*api.Light)) fault {
		return fault{name, rank, want, func(c *call) { f(&c.root) }}
	}
	return []fault{
		root("height", 2, api.ErrForm, func(l *api.Light) { l.Header.Height = 0 }),
		root("great height", 2, api.ErrForm, func(l *api.Light) { l.Header.Height = api.MaxHeight + 1 }),
		root("name", 2, api.ErrForm, func(l *api.Light) { l.Header.Chain = "A" }),
		root("no name", 2, api.ErrForm, func(l *api.Light) { l.Header.Chain = "" }),
		root("round", 2, api.ErrForm, func(l *api.Light) { l.Commit.Round = -1 }),
		root("no set", 3, api.ErrSet, func(l *api.Light) { l.Set = nil }),
		root("set", 3, api.ErrSet, func(l *api.Light) { slices.Reverse(l.Set) }),
		root("next", 3, api.ErrSet, func(l *api.Light) { l.Next[0].Power = 0 }),
		root("set's hash", 4, api.ErrSetHash, func(l *api.Light) { l.Header.Set[31] ^= 1 }),
		root("next's hash", 4, api.ErrSetHash, func(l *api.Light) { l.Header.Next[0] ^= 1 }),
		root("commit's height", 5, api.ErrCommit, func(l *api.Light) { l.Commit.Height++ }),
		root("commit's block", 5, api.ErrCommit, func(l *api.Light) { l.Header.App[9]++ }),
		root("half of the power", 5, api.ErrCommit, func(l *api.Light) { l.Commit = commitOf(l.Header, 1, 2) }),
		root("a seal", 5, api.ErrCommit, func(l *api.Light) { l.Commit.Seals[1].Sig.S ^= 1 }),
		root("another name", 5, api.ErrCommit, func(l *api.Light) { l.Header.Chain = "b" }),
	}
}

func newFaults() []fault {
	var l []fault
	for _, o := range wrongOptions() {
		l = append(l, fault{"options", 0, api.ErrOptions, func(c *call) { c.o = o }})
	}
	for _, now := range strange() {
		l = append(l, fault{"clock", 1, api.ErrClock, func(c *call) { c.now = now }})
	}
	l = append(l, rootFaults()...)
	return append(l, fault{"expired", 6, api.ErrExpired, func(c *call) { c.root = sealed(c.root, always(0)...); c.o.Period = 1 }})
}

// TestNewFaults: each one alone, and of two the one that is named first.
func TestNewFaults(t *testing.T) { // P16.1 (D1), P1, rules 1 and 2
	begin := func() call { return call{block(5, api.Hash{}, always(0), always(0)), 55, half()} }
	expect := func(name string, c call, want api.Errno) {
		t.Helper()
		if x, e := bisect.New(c.root, c.now, c.o); x != nil || e != want {
			t.Errorf("%s: %v, %d, not %d", name, x, e, want)
		}
	}
	faults := newFaults()
	for _, f := range faults {
		c := begin()
		f.make(&c)
		expect(f.name, c, f.want)
		for _, g := range faults {
			if f.rank < g.rank {
				c := begin()
				g.make(&c)
				f.make(&c)
				expect(f.name+", and "+g.name, c, f.want)
			}
		}
	}
	expect("nothing", call{}, api.ErrOptions)
	expect("no root", call{o: half()}, api.ErrForm)
}

func TestGoal(t *testing.T) { // P16.1 (D2)
	root := block(5, api.Hash{}, always(0), always(0))
	for _, n := range []int{6, 7, 1000, api.MaxHeight - 1, api.MaxHeight} {
		c := client(t, root, 50, half())
		aim(t, c, n)
		if got := look(c); !isSame(got, view{n, 0, []api.Light{root}, []api.Light{root}}) {
			t.Errorf("Goal(%d): %+v", n, got)
		}
	}
}

func TestGoalFaults(t *testing.T) { // P16.1 (D2), P1, rule 3
	chain := chainOf(20, sliding)
	c := client(t, chain[5], late, half())
	refused := func(last int) {
		t.Helper()
		unchanged(t, c, "a goal that is refused", func() {
			for _, n := range []int{last, last - 1, 1, 0, -1, math.MinInt} {
				if e := c.Goal(n); e != api.ErrOrder {
					t.Errorf("Goal(%d): %d", n, e)
				}
			}
			for _, n := range []int{api.MaxHeight + 1, api.MaxHeight + 6, math.MaxInt} {
				if e := c.Goal(n); e != api.ErrArg {
					t.Errorf("Goal(%d): %d", n, e)
				}
			}
		})
	}
	refused(5)
	aim(t, c, 12)
	refused(5)
	for _, want := range []int{12, 8, 6} {
		give(t, c, chain[want], late, api.OK)
		refused(c.Store()[len(c.Store())-1].Header.Height)
	}
	// What pends is as it was, too: 12 and 10.
	shows(t, c, chain, 10, 3, []int{5, 6, 8}, []int{5, 6, 8})
	give(t, c, chain[10], late, api.OK)
	shows(t, c, chain, 0, 4, []int{5, 6, 8, 10, 12}, []int{5, 6, 8, 10, 12})
	refused(12)
}

// TestGoalAnew: what was given for another goal is gone, but for what is trusted.
func TestGoalAnew(t *testing.T) { // P16.1 (D2)
	chain := chainOf(30, sliding)
	begin := func() *bisect.Client {
		c := going(t, chain[1], half(), 21)
		give(t, c, chain[21], late, api.OK)
		give(t, c, chain[11], late, api.OK)
		give(t, c, chain[6], late, api.OK)
		give(t, c, chain[3], late, api.OK)
		shows(t, c, chain, 4, 4, []int{1, 3}, []int{1, 3})
		return c
	}
	for _, goal := range []int{4, 5, 6, 11, 21, 30} {
		c := begin()
		aim(t, c, goal)
		shows(t, c, chain, goal, 0, []int{1, 3}, []int{3})
		n := len(follow(t, c, chain))
		if last := c.Store()[len(c.Store())-1]; last.Header.Height != goal || c.Fetches() != n {
			t.Errorf("goal %d: came to %d by %d fetches, %d given", goal, last.Header.Height, c.Fetches(), n)
		}
	}
	c := begin()
	aim(t, c, 5)
	give(t, c, chain[5], late, api.OK)
	shows(t, c, chain, 0, 1, []int{1, 3, 5}, []int{3, 5})
}

// TestWants: the heights that are wanted, one by one.
func TestWants(t *testing.T) { // P16.1 (D2, D3)
	for _, c := range []struct {
		name       string
		who        crew
		level      float64
		root, goal int
		wanted     []int
		store      []int
	}{
		{"a leap", always, 0.5, 1, 20, []int{20}, []int{1, 20}},
		{"the next height", apart, 0.5, 4, 5, []int{5}, []int{4, 5}},
		{"two heights", apart, 0.5, 4, 6, []int{6, 5}, []int{4, 5, 6}},
		{"three heights: rounded down", apart, 0.5, 1, 4, []int{4, 2, 3}, []int{1, 2, 3, 4}},
		{"three heights, from an even one", apart, 0.5, 2, 5, []int{5, 3, 4}, []int{2, 3, 4, 5}},
		{"seven heights", apart, 0.5, 1, 8, []int{8, 4, 2, 3, 6, 5, 7}, []int{1, 2, 3, 4, 5, 6, 7, 8}},
		{"eight heights", apart, 0.5, 2, 10, []int{10, 6, 4, 3, 5, 8, 7, 9}, []int{2, 3, 4, 5, 6, 7, 8, 9, 10}},
		{"by leaps of two", sliding, 0.5, 1, 9, []int{9, 5, 3, 7}, []int{1, 3, 5, 7, 9}},
		{"by leaps of three", sliding, 0.4, 1, 9, []int{9, 5, 3, 7}, []int{1, 3, 5, 7, 9}},
		{"by leaps of three, more of them", sliding, 0.4, 1, 13, []int{13, 7, 4, 10}, []int{1, 4, 7, 10, 13}},
		{"all must stay", sliding, 1, 1, 4, []int{4, 2, 3}, []int{1, 2, 3, 4}},
		{"a set that turns", turned, 0.5, 1, 10, []int{10, 5, 3, 4, 7, 8, 9}, []int{1, 3, 4, 5, 7, 8, 9, 10}},
	} {
		chain := chainOf(20, c.who)
		x := going(t, chain[c.root], api.Options{Level: c.level, Period: 1e6, Drift: 5}, c.goal)
		wanted := follow(t, x, chain)
		if !slices.Equal(wanted, c.wanted) {
			t.Errorf("%s: %v, not %v", c.name, wanted, c.wanted)
		}
		shows(t, x, chain, 0, len(c.wanted), c.store, c.store)
	}
}

// TestMiddles: halves of great heights.
func TestMiddles(t *testing.T) { // P16.1 (D3)
	for _, c := range [][3]int{{1, api.MaxHeight, 1 << 39}, {2, api.MaxHeight, 1<<39 + 1}, {3, api.MaxHeight, 1<<39 + 1}, {api.MaxHeight - 3, api.MaxHeight, api.MaxHeight - 2}, {api.MaxHeight - 2, api.MaxHeight, api.MaxHeight - 1}, {1, api.MaxHeight - 1, 1 << 39}} {
		root, goal := block(c[0], api.Hash{}, always(0), always(0)), block(c[1], api.Hash{}, apart(9), apart(9))
		root.Header.Time, goal.Header.Time = 5, 6
		root, goal = sealed(root, always(0)...), sealed(goal, apart(9)...)
		x := client(t, root, 6, half())
		aim(t, x, c[1])
		give(t, x, goal, 6, api.OK)
		if x.Want() != c[2] {
			t.Errorf("between %d and %d: %d, not %d", c[0], c[1], x.Want(), c[2])
		}
	}
}

// TestFetchRefused: what is not wanted counts for nothing.
func TestFetchRefused(t *testing.T) { // P16.1 (D3), P1, rule 3
	chain := chainOf(20, sliding)
	other := chainOf(20, sliding)
	for h := range other {
		other[h] = bent(other[h], sliding, func(h *api.Header) { h.Chain = "b" })
	}
	c := client(t, chain[1], late, half())
	refused := func(wanted int) {
		t.Helper()
		unchanged(t, c, "a block that is refused", func() {
			for h := range chain {
				if h != wanted {
					give(t, c, chain[h], late, api.ErrFetch)
				}
				give(t, c, other[h], late, api.ErrFetch)
				give(t, c, other[h], math.NaN(), api.ErrFetch)
			}
			for _, h := range []int{0, -1, math.MinInt, api.MaxHeight + 1, math.MaxInt, wanted + 1} {
				give(t, c, api.Light{Header: api.Header{Chain: "a", Height: h}}, infinity, api.ErrFetch)
			}
			for _, name := range []string{"", "A", "aa", "a ", "\x00"} {
				give(t, c, api.Light{Header: api.Header{Chain: name, Height: wanted}}, late, api.ErrFetch)
			}
		})
	}
	refused(0)
	aim(t, c, 9)
	for _, h := range []int{9, 5, 3, 7} {
		refused(h)
		give(t, c, chain[h], late, api.OK)
	}
	shows(t, c, chain, 0, 4, []int{1, 3, 5, 7, 9}, []int{1, 3, 5, 7, 9})
	refused(0)
	aim(t, c, 10)
	give(t, c, chain[10], math.NaN(), api.ErrClock)
	refused(0)
	aim(t, c, 10)
	if e := c.Prune(2); e != api.OK {
		t.Fatalf("Prune: %d", e)
	}
	refused(0)
}

// lie is a block that is given at a height in the place of the right one, or the right one at a strange time.
type lie struct {
	name string
	want api.Errno
	now  float64
	make func(*api.Light)
}

func lies() []lie {
	l := []lie{
		{"expired", api.ErrExpired, 1e9, func(l *api.Light) {}},
		{"the future", api.ErrFuture, 20, func(l *api.Light) {}},
		{"a time that falls", api.ErrOrder, late, func(l *api.Light) { *l = bent(*l, sliding, func(h *api.Header) { h.Time = 10 }) }},
		{"no time", api.ErrOrder, late, func(l *api.Light) { l.Header.Time = math.MinInt }},
		{"a form", api.ErrForm, late, func(l *api.Light) { l.Commit.Round = -1 }},
		{"5000 seals", api.ErrForm, late, func(l *api.Light) { l.Commit.Seals = make([]api.Seal, 5000) }},
		{"no set", api.ErrSet, late, func(l *api.Light) { l.Set = nil }},
		{"another set", api.ErrSetHash, late, func(l *api.Light) { l.Set = setOf(1, 2) }},
		{"another next", api.ErrSetHash, late, func(l *api.Light) { l.Next = setOf(1, 2) }},
		{"a header that nobody signed", api.ErrCommit, late, func(l *api.Light) { l.Header.App[0]++ }},
		{"no commit", api.ErrForm, late, func(l *api.Light) { l.Commit = api.Commit{} }},
		{"no seals", api.ErrCommit, late, func(l *api.Light) { l.Commit.Seals = nil }},
	}
	for _, now := range strange() {
		l = append(l, lie{"a clock", api.ErrClock, now, func(l *api.Light) {}})
	}
	return l
}

// TestLies: each error but ErrTrust gives the goal up, and leaves what is trusted.
func TestLies(t *testing.T) { // P16.1 (D3), P16.4
	chain := chainOf(20, sliding)
	for _, x := range lies() {
		for done := range 4 {
			c := going(t, chain[2], half(), 10)
			wanted, store := []int{10, 6, 4, 8}, []int{2}
			for _, h := range wanted[:done] {
				give(t, c, chain[h], late, api.OK)
			}
			if done == 3 {
				store = []int{2, 4, 6}
			}
			shows(t, c, chain, wanted[done], done, store, store)
			l := chain[wanted[done]]
			x.make(&l)
			give(t, c, l, x.now, x.want)
			shows(t, c, chain, 0, done+1, store, store)
			give(t, c, chain[wanted[done]], late, api.ErrFetch)
			goesOn(t, c, chain, store)
		}
	}
}

// goesOn: a client whose goal was given up comes to another one, with nothing that pends from then.
func goesOn(t *testing.T, c *bisect.Client, chain []api.Light, store []int) {
	t.Helper()
	last := store[len(store)-1]
	aim(t, c, last+2)
	shows(t, c, chain, last+2, 0, store, []int{last})
	give(t, c, chain[last+2], late, api.OK)
	shows(t, c, chain, 0, 1, append(slices.Clone(store), last+2), []int{last, last + 2})
}

// TestNextHeight: the errors of a step to the next height, which no fetch between can mend.
func TestNextHeight(t *testing.T) { // P16.1 (D3), P16.4
	chain := chainOf(9, sliding)
	strangers := block(4, chain[3].Commit.Block, apart(30), apart(31))
	parted := bent(chain[4], sliding, func(h *api.Header) { h.Last[3]++ })
	for _, x := range []struct {
		l    api.Light
		want api.Errno
	}{{strangers, api.ErrSetHash}, {parted, api.ErrOrder}, {chain[4], api.OK}} {
		c := going(t, chain[3], half(), 4)
		give(t, c, x.l, late, x.want)
		want := []int{3}
		if x.want == api.OK {
			want = append(want, 4)
		}
		shows(t, c, chain, 0, 1, want, want)
	}
}

// TestLiesThatPend: a block that pended is found out behind those that were trusted meanwhile: these stay.
func TestLiesThatPend(t *testing.T) { // P16.1 (D3), P16.2, P16.4
	chain := chainOf(20, apart)
	for _, x := range []struct {
		name  string
		found int // the height behind which it is
		want  api.Errno
		l     api.Light
	}{
		{"another block ahead", 4, api.ErrOrder, bent(chain[5], apart, func(h *api.Header) { h.Last[0]++ })},
		{"strangers", 4, api.ErrSetHash, block(5, chain[4].Commit.Block, apart(60), apart(61))},
		{"a time that is the one ahead's", 4, api.ErrOrder, bent(chain[5], apart, func(h *api.Header) { h.Time = 40 })},
		{"a time between", 3, api.ErrOrder, bent(chain[5], apart, func(h *api.Header) { h.Time = 21 })},
	} {
		c := going(t, chain[2], half(), 8)
		give(t, c, chain[8], late, api.OK)
		give(t, c, x.l, late, api.OK)
		store := []int{2}
		for h := 3; h <= x.found; h++ {
			shows(t, c, chain, h, h-1, store, store)
			store = append(store, h)
			want := api.OK
			if h == x.found {
				want = x.want
			}
			give(t, c, chain[h], late, want)
		}
		shows(t, c, chain, 0, x.found, store, store)
		// Nothing pends any more, what was right neither.
		aim(t, c, x.found+2)
		if wanted := follow(t, c, chain); !slices.Equal(wanted, []int{x.found + 2, x.found + 1}) {
			t.Errorf("%s: wanted %v", x.name, wanted)
		}
	}
}

// TestClocks: what pends is verified at the time of the last Give, from the last block that is trusted.
func TestClocks(t *testing.T) { // P16.1 (D3), T2
	chain := chainOf(20, sliding)
	o := api.Options{Level: 0.5, Period: 60, Drift: 5}
	begin := func(now float64) *bisect.Client {
		c := client(t, chain[1], now, o)
		aim(t, c, 5)
		give(t, c, chain[5], now, api.OK)
		return c
	}
	// The root's time is 10, that of the middle 30, that of the goal 50.
	c := begin(50)
	give(t, c, chain[3], below(45), api.ErrFuture)
	shows(t, c, chain, 0, 2, []int{1, 3}, []int{1, 3})
	c = begin(50)
	give(t, c, chain[3], 70, api.ErrExpired)
	shows(t, c, chain, 0, 2, []int{1}, []int{1})
	for _, now := range []float64{45, 50, below(70)} {
		c = begin(50)
		give(t, c, chain[3], now, api.OK)
		shows(t, c, chain, 0, 2, []int{1, 3, 5}, []int{1, 3, 5})
	}
	// From here on the root is expired, but nothing goes from it: the last one's time is 50.
	aim(t, c, 7)
	give(t, c, chain[7], below(110), api.OK)
	aim(t, c, 9)
	give(t, c, chain[9], 130, api.ErrExpired)
	shows(t, c, chain, 0, 1, []int{1, 3, 5, 7}, []int{7})
}
