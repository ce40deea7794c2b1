package relay_test

import (
	"bytes"
	"math"
	"slices"
	"testing"

	"nuncio/api"
	"nuncio/chain"
	"nuncio/forms"
	"nuncio/relay"
	"nuncio/verify"
)

// far are numbers of which there is no chain.
var far = []int{-1, 2, 3, 101, math.MinInt, math.MaxInt}

// founded is the i-th chain of a world behind its first block, made by hand.
func founded(t *testing.T, i, n int) *chain.Chain {
	t.Helper()
	own, account, denom := "a", "ann", "coin"
	if i == 1 {
		own, account, denom = "b", "bob", "gold"
	}
	other := map[string]string{"a": "b", "b": "a"}[own]
	c, e := chain.New(own, other, secretsOf(i, n), slices.Repeat([]int{1}, n))
	expect(t, "chain.New", e, api.OK)
	expect(t, "Grant", c.Grant(account, denom, 1000), api.OK)
	expect(t, "Block", c.Block(10, 0, nil), api.OK)
	return c
}

// TestNew: all that a world begins with.
func TestNew(t *testing.T) { // P23.1 (Y1)
	for a := 1; a <= 8; a++ {
		for b := 1; b <= 8; b++ {
			w := world(t, a, b)
			if w.Clock() != 10 {
				t.Errorf("the clock of a new world is %d", w.Clock())
			}
			begins(t, w, 0, a, "a", api.Entry{Key: "bank/coin/ann", Value: "1000"})
			begins(t, w, 1, b, "b", api.Entry{Key: "bank/gold/bob", Value: "1000"})
			// Both know the other one's last block, and nothing was sent.
			planned(t, w.Chain(0), w.Chain(1))
			planned(t, w.Chain(1), w.Chain(0))
		}
	}
}

// begins: the i-th chain of a new world has n validators, one block, one entry, and knows one block of the other one.
func begins(t *testing.T, w *relay.World, i, n int, own string, e api.Entry) {
	t.Helper()
	c := w.Chain(i)
	if c == nil || c.Height() != 1 {
		t.Fatalf("chain %d: %v", i, c)
	}
	l, _ := c.Light(1)
	if l.Header.Chain != own || l.Header.Time != 10 || l.Commit.Round != 0 || len(l.Commit.Seals) != n || !slices.Equal(l.Set, crewOf(i, n)) || !slices.Equal(l.Next, crewOf(i, n)) {
		t.Errorf("chain %d: %+v", i, l)
	}
	expect(t, "Sound", verify.Sound(own, l), api.OK)
	hand, _ := founded(t, i, n).Light(1)
	got, _ := forms.EncodeLight(l)
	if want, _ := forms.EncodeLight(hand); !bytes.Equal(got, want) {
		t.Errorf("the first block of chain %d is %+v, not %+v", i, l, hand)
	}
	a := c.App()
	if !slices.Equal(a.Entries(), []api.Entry{e}) || a.Known() != 1 || len(a.Sent()) != 0 || len(c.Results(1)) != 0 {
		t.Errorf("chain %d has %v, knows %d", i, a.Entries(), a.Known())
	}
}

func TestNewFaults(t *testing.T) { // P23.1 (Y1), rule 2
	for _, wrong := range []int{0, -1, 9, 10, 64, 101, math.MinInt, math.MaxInt} {
		for _, other := range []int{1, 3, 8, wrong} {
			for _, x := range [][2]int{{wrong, other}, {other, wrong}} {
				if w, e := relay.New(x[0], x[1]); w != nil || e != api.ErrArg {
					t.Errorf("New(%d, %d): %v, %d", x[0], x[1], w, e)
				}
			}
		}
	}
}

// TestLevel: each trusts what more than half of the power it knows signed, at the edge.
func TestLevel(t *testing.T) { // P23.1 (Y1)
	for i := range 2 {
		for _, x := range []struct {
			gone, stays int
			want        api.Errno
		}{
			{1, 1, api.ErrTrust}, {1000, 1001, api.OK}, {1001, 1000, api.ErrTrust}, {1000, 1000, api.ErrTrust},
			{1 << 48, 1<<48 + 1, api.OK}, {1 << 48, 1 << 48, api.ErrTrust}, {2, 1, api.ErrTrust}, {1, 2, api.OK},
		} {
			w := world(t, 2, 2)
			l := crewOf(i, 2)
			done(t, w, i, powers(api.Validator{Key: l[0].Key, Power: x.gone}, api.Validator{Key: l[1].Key, Power: x.stays}))
			carried(t, w, 1-i, 1)
			made(t, w, 1-i, 1)
			results(t, w, 1-i, api.OK)
			done(t, w, i, powers(api.Validator{Key: l[0].Key}))
			made(t, w, i, 1)
			carried(t, w, 1-i, 1)
			made(t, w, 1-i, 1)
			results(t, w, 1-i, x.want)
		}
	}
}

// TestPeriod: what a chain knows is too old behind 100000 seconds.
func TestPeriod(t *testing.T) { // P23.1 (Y1)
	for i := range 2 {
		for wait, want := range map[int]api.Errno{997: api.OK, 998: api.OK, 999: api.ErrExpired, 1000: api.ErrExpired} {
			w := world(t, 2, 2)
			made(t, w, i, 1)
			for range 99 {
				made(t, w, 1-i, 1000)
			}
			carried(t, w, 1-i, 1)
			made(t, w, 1-i, wait) // at 99011 and that, which is 100009 and one second more
			results(t, w, 1-i, want)
		}
	}
}

// TestDrift: a block may be 1000 seconds ahead of a chain's clock.
func TestDrift(t *testing.T) { // P23.1 (Y1)
	for i := range 2 {
		for wait, want := range map[int]api.Errno{1: api.OK, 2: api.ErrFuture} {
			w := world(t, 2, 2)
			made(t, w, i, 1000)
			made(t, w, i, wait)
			carried(t, w, 1-i, 1)
			expect(t, "Block", w.Chain(1-i).Block(11, 0, nil), api.OK)
			results(t, w, 1-i, want)
		}
	}
}

// TestChain: the i-th is the world's own.
func TestChain(t *testing.T) { // P23.1 (Y1)
	w := world(t, 3, 2)
	for _, i := range far {
		if c := w.Chain(i); c != nil {
			t.Errorf("chain %d is %v", i, c)
		}
	}
	if w.Chain(0) == w.Chain(1) || w.Chain(0) != w.Chain(0) || w.Chain(1) != w.Chain(1) {
		t.Error("not the chains of the world")
	}
	expect(t, "Submit", w.Chain(0).Submit(pay("ann", "bob", "coin", 7)), api.OK)
	made(t, w, 0, 1)
	results(t, w, 0, api.OK)
	submit(t, w, 1, pay("bob", "ann", "gold", 9))
	expect(t, "Block", w.Chain(1).Block(11, 0, nil), api.OK)
	results(t, w, 1, api.OK)
	balances(t, w, 0, "bob", "coin", 7)
	balances(t, w, 1, "ann", "gold", 9)
	if w.Clock() != 11 {
		t.Errorf("the clock is %d", w.Clock())
	}
}

// TestSubmit: in order, at that chain alone, as many as its pool takes; what is handed in is not kept.
func TestSubmit(t *testing.T) { // P23.1 (Y1), rule 4
	for i, denom := range []string{"coin", "gold"} {
		w := world(t, 3, 2)
		who := []string{"ann", "bob"}[i]
		changes := []api.Validator{{Key: 77, Power: 1}, {Key: 78, Power: 5}}[:1]
		submit(t, w, i, pay(who, "cid", denom, 3), pay("cid", "dan", denom, 2), pay("dan", "eve", denom, 3), powers(changes...), api.Tx{})
		changes[0].Key = 79
		for range 27 {
			submit(t, w, i, pay("cid", "dan", denom, 0))
		}
		expect(t, "Submit", w.Submit(i, pay(who, "cid", denom, 1)), api.ErrBlock)
		made(t, w, i, 1)
		want := slices.Concat([]api.Errno{api.OK, api.OK, api.ErrBalance, api.OK, api.ErrTx}, slices.Repeat([]api.Errno{api.ErrArg}, 27))
		results(t, w, i, want...)
		if l := w.Chain(i).App().Set(); !slices.ContainsFunc(l, func(v api.Validator) bool { return v.Key == 77 }) || len(l) != 4-i {
			t.Errorf("%v", l)
		}
		made(t, w, 1-i, 1)
		results(t, w, 1-i)
	}
}

// TestNoChain: of what there is no chain ErrRelay tells, ahead of all else, and nothing happens.
func TestNoChain(t *testing.T) { // P23.1 (Y1), rules 2 and 3
	s := seed(func() *relay.World { return busy(t) })
	for _, i := range far {
		s.unchanged(t, func(w *relay.World) {
			for _, x := range []api.Tx{{}, pay("ann", "bob", "coin", 1), send("ann", "bob", "coin", 1, 9)} {
				expect(t, "Submit", w.Submit(i, x), api.ErrRelay)
			}
			for _, wait := range []int{1, 1000, 0, -1, 1001, math.MinInt, math.MaxInt} {
				expect(t, "Block", w.Block(i, wait), api.ErrRelay)
			}
			if n, e := w.Relay(i); n != 0 || e != api.ErrRelay {
				t.Errorf("Relay(%d): %d, %d", i, n, e)
			}
		})
	}
}

// busy has packets both ways, and full pools.
func busy(t *testing.T) *relay.World {
	t.Helper()
	w := world(t, 3, 4)
	done(t, w, 0, send("ann", "bob", "coin", 5, 20), send("ann", "?", "coin", 6, 4))
	done(t, w, 1, send("bob", "ann", "gold", 7, 20))
	for i := range 2 {
		w.Relay(i)
		for w.Submit(i, pay("ann", "bob", "coin", 1)) == api.OK {
		}
	}
	return w
}

// TestBlock: at the clock's time and the wait, of round 0, by all; the clock goes on.
func TestBlock(t *testing.T) { // P23.1 (Y1)
	w := world(t, 5, 8)
	clock := 10
	var heights [2]int
	for k, wait := range []int{1, 1000, 2, 1, 999, 500, 1, 1000, 1000, 1, 3} {
		i := k * k % 3 % 2
		made(t, w, i, wait)
		clock += wait
		heights[i]++
		c := w.Chain(i)
		l, _ := c.Light(c.Height())
		if w.Clock() != clock || l.Header.Time != clock || c.Height() != 1+heights[i] || l.Commit.Round != 0 || len(l.Commit.Seals) != []int{5, 8}[i] {
			t.Errorf("the clock is %d, not %d, chain %d has %+v", w.Clock(), clock, i, l)
		}
	}
	if heights[0] == 0 || heights[1] == 0 {
		t.Error("a chain of these tests has no block")
	}
}

// TestWaits: none but 1 to 1000 may be.
func TestWaits(t *testing.T) { // P23.1 (Y1), rule 3
	s := seed(func() *relay.World { return busy(t) })
	for _, wait := range []int{0, -1, 1001, 1002, -1000, math.MinInt, math.MaxInt, math.MaxInt - 10} {
		s.unchanged(t, func(w *relay.World) {
			expect(t, "Block", w.Block(0, wait), api.ErrArg)
			expect(t, "Block", w.Block(1, wait), api.ErrArg)
		})
	}
}

// TestClockBehind: who makes blocks by itself may be refused by the clock, which stays till it is there.
func TestClockBehind(t *testing.T) { // P23.1 (Y1), rules 1 and 3
	s := seed(func() *relay.World {
		w := busy(t)
		expect(t, "Block", w.Chain(1).Block(512, 3, nil), api.OK)
		w.Submit(1, pay("bob", "cid", "gold", 5))
		return w
	})
	if w := s(); w.Clock() != 12 {
		t.Fatalf("the clock of these tests is %d", w.Clock())
	}
	for _, wait := range []int{1, 2, 100, 499, 500} {
		s.unchanged(t, func(w *relay.World) { expect(t, "Block", w.Block(1, wait), api.ErrOrder) })
	}
	s.unchanged(t, func(w *relay.World) { expect(t, "Block", w.Block(1, 1001), api.ErrArg) })
	w := s()
	made(t, w, 0, 1)
	expect(t, "Block", w.Block(1, 499), api.ErrOrder)
	made(t, w, 1, 500)
	results(t, w, 1, api.OK)
	if w.Clock() != 513 {
		t.Errorf("the clock is %d", w.Clock())
	}
	expect(t, "Block", w.Chain(0).Block(api.MaxHeight, 0, nil), api.OK)
	expect(t, "Block", w.Block(0, 1000), api.ErrOrder)
	made(t, w, 1, 1000)
	if w.Clock() != 1513 {
		t.Errorf("the clock is %d", w.Clock())
	}
}

// TestStrangers: where those who sign are too few no block is made, the pool stays, and the clock too.
func TestStrangers(t *testing.T) { // P23.1 (Y1), rule 3
	for i := range 2 {
		s := seed(func() *relay.World {
			w := world(t, 4, 4)
			done(t, w, i, powers(api.Validator{Key: 77, Power: 2}))
			w.Submit(i, pay("ann", "bob", "coin", 5))
			return w
		})
		s.unchanged(t, func(w *relay.World) {
			expect(t, "Block", w.Block(i, 5), api.ErrCommit)
			expect(t, "Block", w.Block(i, 1000), api.ErrCommit)
		})
		w := s()
		expect(t, "Block", w.Block(i, 1000), api.ErrCommit)
		made(t, w, 1-i, 1)
		if w.Clock() != 12 {
			t.Errorf("the clock is %d", w.Clock())
		}
	}
}

// TestRelay: the plan is submitted, in order, behind what the pool has.
func TestRelay(t *testing.T) { // P23.1 (Y1)
	for i := range 2 {
		w := world(t, 2, 3)
		from := []api.Tx{send("ann", "bob", "coin", 1, 50), send("bob", "ann", "gold", 1, 50)}[i]
		done(t, w, i, from, from, from)
		carried(t, w, i, 0)
		carried(t, w, 1-i, 4)
		submit(t, w, 1-i, api.Tx{})
		carried(t, w, 1-i, 4) // nothing was heard of yet
		made(t, w, 1-i, 1)
		results(t, w, 1-i, api.OK, api.OK, api.OK, api.OK, api.ErrTx, api.ErrOrder, api.ErrDone, api.ErrDone, api.ErrDone)
		carried(t, w, 1-i, 0)
		planned(t, w.Chain(i), w.Chain(1-i))
		carried(t, w, i, 4)
		made(t, w, i, 1)
		results(t, w, i, api.OK, api.OK, api.OK, api.OK)
		carried(t, w, i, 0)
		carried(t, w, 1-i, 1)
		if len(open(w, i)) != 0 || w.Clock() != 13 {
			t.Errorf("open are %v", open(w, i))
		}
	}
}

// TestRelayFull: as far as the pool takes it.
func TestRelayFull(t *testing.T) { // P23.1 (Y1)
	for i := range 2 {
		x := []api.Tx{send("ann", "bob", "coin", 1, 50), send("bob", "ann", "gold", 1, 50)}[i]
		for had := range 33 {
			w := world(t, 2, 3)
			done(t, w, i, slices.Repeat([]api.Tx{x}, 6)...)
			submit(t, w, 1-i, slices.Repeat([]api.Tx{{}}, had)...)
			n := min(7, 32-had)
			carried(t, w, 1-i, n)
			made(t, w, 1-i, 1)
			results(t, w, 1-i, slices.Concat(slices.Repeat([]api.Errno{api.ErrTx}, had), make([]api.Errno, n))...)
			if got := len(w.Chain(1 - i).App().Entries()); got != 1+2*max(n-1, 0)+min(max(n-1, 0), 1) {
				t.Errorf("with %d in the pool: %d entries", had, got)
			}
			rest := 6 - max(n-1, 0)
			if n == 0 {
				rest++
			}
			carried(t, w, 1-i, rest)
			made(t, w, 1-i, 1)
			results(t, w, 1-i, make([]api.Errno, rest)...)
		}
	}
}

// TestNil: ErrArg, and nothing.
func TestNil(t *testing.T) { // rule 8, P1
	var w *relay.World
	for _, i := range append([]int{0, 1}, far...) {
		expect(t, "Submit", w.Submit(i, api.Tx{}), api.ErrArg)
		for _, wait := range []int{1, 0, -1, 1001} {
			expect(t, "Block", w.Block(i, wait), api.ErrArg)
		}
		if n, e := w.Relay(i); n != 0 || e != api.ErrArg {
			t.Errorf("Relay: %d, %d", n, e)
		}
		if c := w.Chain(i); c != nil {
			t.Errorf("Chain: %v", c)
		}
	}
	if w.Clock() != 0 {
		t.Errorf("Clock: %d", w.Clock())
	}
	// One that New did not give has no chains.
	var none relay.World
	for _, i := range append([]int{0, 1}, far...) {
		expect(t, "Submit", none.Submit(i, api.Tx{}), api.ErrRelay)
		expect(t, "Block", none.Block(i, 1), api.ErrRelay)
		if n, e := none.Relay(i); n != 0 || e != api.ErrRelay || none.Chain(i) != nil {
			t.Errorf("Relay: %d, %d", n, e)
		}
	}
}

// TestApart: worlds have nothing in common.
func TestApart(t *testing.T) { // P2
	s := seed(func() *relay.World { return busy(t) })
	s.unchanged(t, func(*relay.World) {
		other := world(t, 3, 4)
		for range 5 {
			submit(t, other, 0, send("ann", "bob", "coin", 5, 20))
			turn(t, other)
		}
	})
	w, other := s(), world(t, 3, 4)
	made(t, other, 0, 1000)
	if w.Clock() != 12 || other.Clock() != 1010 {
		t.Errorf("the clocks are %d and %d", w.Clock(), other.Clock())
	}
}
