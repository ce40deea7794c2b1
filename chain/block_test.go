package chain_test

import (
	"math"
	"slices"
	"strconv"
	"testing"

	"nuncio/api"
	"nuncio/blake"
	"nuncio/chain"
	"nuncio/merkle"
)

// TestBlock: two blocks, field by field and byte by byte.
func TestBlock(t *testing.T) { // P22.1 (B2), P22.2
	c, a := begun(t, "a", "b"), appOf(t, "a", "b")
	secrets, set := crew(), setOf(crew(), crewPowers())
	expect(t, "Block", c.Block(10, 0, nil), api.OK)
	root, _ := merkle.Root(a.Entries())
	first := api.Header{Chain: "a", Height: 1, Time: 10, Set: setHash(set), Next: setHash(set), Data: blake.Sum([]byte{7}), App: root}
	judge(t, c, first, 0, set, set, secrets)

	txs := []api.Tx{pay("ann", "bob", "coin", 3), pay("ann", "bob", "coin", 300), powers(api.Validator{Key: 77, Power: 1}), {}, pay("escrow", "bob", "coin", 0), send("ann", "bob", "coin", 1, 9)}
	want := []api.Errno{api.OK, api.ErrBalance, api.OK, api.ErrTx, api.ErrName, api.ErrRoot}
	submit(t, c, txs...)
	for i, x := range txs {
		expect(t, "Run", a.Run(x, 2, 20), want[i])
	}
	expect(t, "Block", c.Block(20, 3, []bool{true, false}), api.OK)
	if !slices.Equal(c.Results(2), want) || len(c.Results(1)) != 0 || c.Height() != 2 {
		t.Errorf("%v, not %v", c.Results(2), want)
	}
	root, _ = merkle.Root(a.Entries())
	next := slices.Insert(slices.Clone(set), 0, api.Validator{Key: 77, Power: 1})
	if set[0].Key < 77 || !slices.Equal(a.Set(), next) {
		t.Fatal("the set of these tests")
	}
	second := api.Header{Chain: "a", Height: 2, Time: 20, Last: headerHash(first), Set: setHash(set), Next: setHash(next), Data: dataHash(want), App: root}
	judge(t, c, second, 3, set, next, []uint64{secrets[0], secrets[2]})
	judge(t, c, first, 0, set, set, secrets)

	// Of the key 77 there is no secret; the others are the second, the third and the fourth now.
	expect(t, "Block", c.Block(api.MaxHeight, api.MaxRound, []bool{false, true, true, true, false}), api.OK)
	third := api.Header{Chain: "a", Height: 3, Time: api.MaxHeight, Last: headerHash(second), Set: setHash(next), Next: setHash(next), Data: dataHash(nil), App: root}
	judge(t, c, third, api.MaxRound, next, next, secrets)
	sound(t, c, "a")
}

// judge: the light block of that header's height is just that one, signed by these secrets.
func judge(t *testing.T, c *chain.Chain, h api.Header, round int, set, next []api.Validator, secrets []uint64) {
	t.Helper()
	l := light(t, c, h.Height)
	if l.Header != h {
		t.Fatalf("the header of %d is %+v, not %+v", h.Height, l.Header, h)
	}
	if !slices.Equal(l.Set, set) || !slices.Equal(l.Next, next) {
		t.Fatalf("the sets of %d are %v and %v, not %v and %v", h.Height, l.Set, l.Next, set, next)
	}
	var seals []api.Seal
	for _, s := range secrets {
		seals = append(seals, sealOf(s, h.Chain, h.Height, round, headerHash(h)))
	}
	if l.Commit.Height != h.Height || l.Commit.Round != round || l.Commit.Block != headerHash(h) || !slices.Equal(l.Commit.Seals, seals) {
		t.Fatalf("the commit of %d is %+v, not of round %d, with %v", h.Height, l.Commit, round, seals)
	}
}

// blockCall is one of Block, fault makes one thing of it wrong; those whose rank is lower are answered first.
type blockCall struct {
	time, round int
	who         []bool
}

type blockFault struct {
	rank int
	want api.Errno
	make func(x *blockCall)
}

func blockFaults(ahead int) []blockFault {
	var l []blockFault
	put := func(rank int, want api.Errno, f func(x *blockCall)) { l = append(l, blockFault{rank, want, f}) }
	for _, time := range []int{math.MinInt, -1, 0, ahead - 1, ahead, api.MaxHeight + 1, math.MaxInt} {
		put(0, api.ErrOrder, func(x *blockCall) { x.time = time })
	}
	for _, round := range []int{math.MinInt, -1, api.MaxRound + 1, math.MaxInt} {
		put(1, api.ErrForm, func(x *blockCall) { x.round = round })
	}
	for _, who := range [][]bool{{false, false}, {false, true, false}, {true, true, false}, {true, true, false, true, true}, {false, false, false}} {
		put(2, api.ErrCommit, func(x *blockCall) { x.who = who })
	}
	return l
}

func TestBlockFaults(t *testing.T) { // P22.1 (B2), rules 1 and 3
	for ahead := range 3 {
		s := seed(func() *chain.Chain {
			c := begun(t, "a", "b")
			for h := 1; h <= ahead; h++ {
				made(t, c, 10*h)
			}
			submit(t, c, pay("ann", "bob", "coin", 3), pay("ann", "bob", "coin", 300), powers(api.Validator{Key: 77, Power: 1}))
			return c
		})
		tried := func(want api.Errno, faults ...blockFault) {
			t.Helper()
			s.unchanged(t, func(c *chain.Chain) {
				x := blockCall{10*ahead + 1, 0, []bool{true}}
				for _, f := range faults {
					f.make(&x)
				}
				expect(t, "Block", c.Block(x.time, x.round, x.who), want)
			})
		}
		for _, f := range blockFaults(10 * ahead) {
			tried(f.want, f)
			for _, g := range blockFaults(10 * ahead) {
				if f.rank < g.rank {
					tried(f.want, g, f)
				}
			}
		}
		for _, x := range []blockCall{{10*ahead + 1, 0, nil}, {api.MaxHeight, api.MaxRound, []bool{false, true}}, {10*ahead + 2, 1, []bool{true, false, true, false}}} {
			c := s()
			expect(t, "Block", c.Block(x.time, x.round, x.who), api.OK)
			l := light(t, c, ahead+1)
			if l.Header.Time != x.time || l.Commit.Round != x.round || len(c.Results(ahead+1)) != 3 {
				t.Errorf("%+v", l)
			}
			sound(t, c, "a")
		}
	}
	c := begun(t, "a", "b")
	made(t, c, api.MaxHeight)
	expect(t, "Block behind the last time", c.Block(api.MaxHeight, 0, nil), api.ErrOrder)
	expect(t, "Block behind the last time", c.Block(api.MaxHeight+1, 0, nil), api.ErrOrder)
}

// TestTwoThirds: just more than two thirds are enough, whoever they are.
func TestTwoThirds(t *testing.T) { // P22.1 (B2)
	for _, x := range []struct {
		powers []int
		who    []bool
		so     bool
	}{
		{[]int{1}, nil, true}, {[]int{1}, []bool{true}, true}, {[]int{1}, []bool{false}, false}, {[]int{1}, []bool{false, true}, false},
		{[]int{1, 2}, []bool{false, true}, false}, {[]int{1, 2}, []bool{true, false}, false},
		{[]int{2, 4}, []bool{false}, false}, {[]int{2, 5}, []bool{false}, true}, {[]int{2, 5}, []bool{true, false}, false},
		{[]int{1, 1, 1}, []bool{false}, false}, {[]int{1, 1, 1}, []bool{true, true, true}, true},
		{[]int{1, 1, 1, 1}, []bool{false}, true}, {[]int{1, 1, 1, 1}, []bool{true, true, true, false}, true}, {[]int{1, 1, 1, 1}, []bool{false, true, false}, false},
		{[]int{api.MaxPower/3 + 1, api.MaxPower - api.MaxPower/3 - 1}, []bool{false}, false},
		{[]int{api.MaxPower / 3, api.MaxPower - api.MaxPower/3}, []bool{false}, true},
		{[]int{api.MaxPower}, nil, true},
	} {
		var secrets []uint64
		for i := range x.powers {
			secrets = append(secrets, uint64(40+i))
		}
		secrets = rising(secrets...)
		c, e := chain.New("a", "b", secrets, x.powers)
		expect(t, "New", e, api.OK)
		want := api.ErrCommit
		if x.so {
			want = api.OK
		}
		expect(t, "Block", c.Block(1, 0, x.who), want)
		if c.Height() == 1 {
			sound(t, c, "a")
		}
	}
}

// TestAnyWho: who signs is told by places in the set, whatever the order of the secrets was.
func TestAnyWho(t *testing.T) { // P22.1 (B2), P22.2
	secrets := rising(11, 12, 13, 14, 15)
	weights := []int{1, 2, 3, 4, 5}
	given, power := slices.Clone(secrets), slices.Clone(weights)
	slices.Reverse(given)
	slices.Reverse(power)
	for length := range 8 {
		for bits := range 1 << length {
			c, e := chain.New("a", "b", given, power)
			expect(t, "New", e, api.OK)
			who := make([]bool, length)
			for i := range who {
				who[i] = bits>>i&1 == 1
			}
			var sign []uint64
			sum := 0
			for i, s := range secrets {
				if i >= length || who[i] {
					sign = append(sign, s)
					sum += weights[i]
				}
			}
			want := api.ErrCommit
			if 3*sum > 2*15 {
				want = api.OK
			}
			expect(t, "Block", c.Block(5, 2, who), want)
			if want != api.OK {
				continue
			}
			l := light(t, c, 1)
			judge(t, c, l.Header, 2, setOf(secrets, weights), setOf(secrets, weights), sign)
		}
	}
}

// TestStrangers: a validator whose secret the chain has not does not sign; one that comes back does.
func TestStrangers(t *testing.T) { // P22.1 (B2), P22.2
	c := begun(t, "a", "b")
	secrets := crew()
	keys := []uint64{keyOf(secrets[0]), keyOf(secrets[1]), keyOf(secrets[2])}
	step := func(time int, who []bool, want api.Errno, signs []uint64, l ...api.Validator) {
		t.Helper()
		if len(l) > 0 {
			submit(t, c, powers(l...))
		}
		expect(t, "Block "+strconv.Itoa(time), c.Block(time, 0, who), want)
		if want != api.OK {
			return
		}
		var got []uint64
		for _, s := range light(t, c, c.Height()).Commit.Seals {
			got = append(got, s.Key)
		}
		if !slices.Equal(got, signs) {
			t.Errorf("at %d signed %v, not %v", time, got, signs)
		}
	}
	// The changes are of the next height on.
	step(1, nil, api.OK, keys, api.Validator{Key: keys[2]}, api.Validator{Key: math.MaxUint64, Power: 1})
	for range 3 { // 2 of 3 are left
		step(2, nil, api.ErrCommit, nil)
		step(2, []bool{true, true, true}, api.ErrCommit, nil)
	}

	c = begun(t, "a", "b")
	step(1, nil, api.OK, keys, api.Validator{Key: keys[2]}, api.Validator{Key: 0, Power: 1}, api.Validator{Key: keys[0], Power: 9})
	// Now the first one is a stranger, and the powers are 1, 9, 1.
	step(2, []bool{false, true, false}, api.OK, keys[:1])
	step(3, []bool{true, true}, api.OK, keys[:2], api.Validator{Key: keys[2], Power: 1})
	// The third one is there again.
	step(4, []bool{false, true, true, true}, api.OK, keys, api.Validator{Key: 0})
	// The stranger is gone: the powers are 9, 1, 1.
	step(5, []bool{true, false, true}, api.OK, []uint64{keys[0], keys[2]})
	step(6, []bool{false, true, true}, api.ErrCommit, nil)
	step(6, nil, api.OK, keys, api.Validator{Key: keyOf(999), Power: 60})
	// A stranger has more than two thirds, and nobody can make a block any more, nor change that.
	step(7, nil, api.ErrCommit, nil, api.Validator{Key: keyOf(999)})
	step(8, nil, api.ErrCommit, nil)
	if len(c.App().Set()) != 4 || c.Height() != 6 {
		t.Errorf("%v at %d", c.App().Set(), c.Height())
	}
	sound(t, c, "a")
}

// TestRunPlace: transactions are run at the new block's height, at its time.
func TestRunPlace(t *testing.T) { // P22.1 (B2)
	b := begun(t, "b", "a")
	made(t, b, 10)
	submit(t, b, powers())
	made(t, b, 20)
	c := begun(t, "a", "b")
	// The root is 90.5 seconds old at 100.5: a block of 100 is the last one to take another one in.
	expect(t, "Trust", c.Trust(light(t, b, 1), 10, api.Options{Level: 0.5, Period: 90.5, Drift: 3}), api.OK)
	up := api.Tx{Kind: api.Update, Light: light(t, b, 2)}
	tried := func(time int, want api.Errno) {
		t.Helper()
		submit(t, c, up)
		made(t, c, time)
		if r := c.Results(c.Height()); !slices.Equal(r, []api.Errno{want}) {
			t.Errorf("at %d: %v, not %d", time, r, want)
		}
	}
	tried(16, api.ErrFuture)
	expectKnown(t, c, 1)
	tried(101, api.ErrExpired)
	c = begun(t, "a", "b")
	expect(t, "Trust", c.Trust(light(t, b, 1), 10, api.Options{Level: 0.5, Period: 90.5, Drift: 3}), api.OK)
	tried(17, api.OK)
	expectKnown(t, c, 2)
	c = begun(t, "a", "b")
	expect(t, "Trust", c.Trust(light(t, b, 1), 10, api.Options{Level: 0.5, Period: 90.5, Drift: 3}), api.OK)
	tried(100, api.OK)
	tried(101, api.ErrOrder)

	// A packet may be received in a block below its time alone.
	for timeout, want := range map[int]api.Errno{3: api.ErrTimeout, 4: api.OK, 5: api.OK} {
		a, to := begun(t, "a", "b"), begun(t, "b", "a")
		expect(t, "Trust", a.Trust(light(t, b, 2), 20, patient), api.OK)
		submit(t, a, send("ann", "bob", "coin", 1, timeout))
		made(t, a, 10)
		expect(t, "Trust", to.Trust(light(t, a, 1), 20, patient), api.OK)
		made(t, to, 5)
		made(t, to, 6)
		p, e := a.Proof(1, "commit/1")
		expect(t, "Proof", e, api.OK)
		submit(t, to, api.Tx{Kind: api.Receive, Packet: a.App().Sent()[0], Height: 1, Proof: p})
		made(t, to, 7)
		if r := to.Results(3); !slices.Equal(r, []api.Errno{want}) {
			t.Errorf("with time %d: %v, not %d", timeout, r, want)
		}
	}
}

func expectKnown(t *testing.T, c *chain.Chain, height int) {
	t.Helper()
	if c.App().Known() != height {
		t.Errorf("%d is known, not %d", c.App().Known(), height)
	}
}

// TestProofs: each height keeps what it had.
func TestProofs(t *testing.T) { // P22.1 (B3), P22.3, T4
	c, a := begun(t, "a", "b"), appOf(t, "a", "b")
	expect(t, "Trust", c.Trust(rootOf(t), 30, patient), api.OK)
	expect(t, "Trust", a.Trust(rootOf(t), 30, patient), api.OK)
	var states [][]api.Entry
	for h := 1; h <= 9; h++ {
		txs := []api.Tx{pay("ann", "bob", "coin", 1), send("ann", "bob", "coin", uint64(h), 20), pay("bob", lettered(h), "a/coin", 1), pay("bob", "ann", "a/coin", 1000)}
		if h%3 == 0 { // nothing changes
			txs = nil
		}
		submit(t, c, txs...)
		for _, x := range txs {
			a.Run(x, h, float64(10*h))
		}
		made(t, c, 10*h)
		states = append(states, a.Entries())
		for at, state := range states {
			proved(t, c, at+1, state)
		}
	}
	for h := range states {
		for other, l := range states {
			p, e := c.Proof(other+1, "bank/coin/ann")
			expect(t, "Proof", e, api.OK)
			_, _, ok := merkle.Check(light(t, c, h+1).Header.App, "bank/coin/ann", p)
			if ok != slices.Equal(l, states[h]) {
				t.Errorf("a proof of %d at %d: %v", other+1, h+1, ok)
			}
		}
	}
	bare, e := chain.New("a", "b", crew(), crewPowers())
	expect(t, "New", e, api.OK)
	made(t, bare, 1)
	proved(t, bare, 1, nil)
	if l := light(t, bare, 1); l.Header.App != blake.Sum(nil) {
		t.Errorf("nothing has %v", l.Header.App)
	}
}
