package chain_test

import (
	"math"
	"slices"
	"testing"

	"nuncio/api"
	"nuncio/app"
	"nuncio/chain"
	"nuncio/merkle"
)

// noBlocks: a chain at its beginning has nothing to show.
func noBlocks(t *testing.T, c *chain.Chain) {
	t.Helper()
	if c.Height() != 0 {
		t.Errorf("height %d", c.Height())
	}
	for _, h := range []int{math.MinInt, -1, 0, 1, 2, math.MaxInt} {
		missing(t, c, h, api.ErrBlock)
	}
}

// missing: of that height there is nothing.
func missing(t *testing.T, c *chain.Chain, height int, want api.Errno) {
	t.Helper()
	l, e := c.Light(height)
	if e != want || l.Header != (api.Header{}) || l.Commit.Height != 0 || l.Commit.Round != 0 || l.Commit.Block != (api.Hash{}) || len(l.Commit.Seals)+len(l.Set)+len(l.Next) > 0 {
		t.Errorf("Light(%d): %v, %d", height, l, e)
	}
	for _, key := range []string{"", "bank/coin/ann"} {
		if p, e := c.Proof(height, key); e != want || p.Size != 0 || len(p.Parts) > 0 {
			t.Errorf("Proof(%d): %v, %d", height, p, e)
		}
	}
	if r := c.Results(height); len(r) > 0 {
		t.Errorf("Results(%d): %v", height, r)
	}
}

func TestNew(t *testing.T) { // P22.1 (B1)
	var all []uint64
	var ones []int
	for i := range api.MaxValidators {
		all, ones = append(all, uint64(i)+1000), append(ones, i+1)
	}
	for _, x := range []struct {
		own, other string
		secrets    []uint64
		powers     []int
	}{
		{"a", "b", []uint64{5}, []int{1}},
		{"b", "a", []uint64{5}, []int{api.MaxPower}},
		{"escrow", "abcdefghijklmnop", []uint64{1, 2, 3, 4, 5}, []int{10, 20, 30, 40, 50}},
		{"a", "aa", []uint64{5, 4, 3, 2, 1}, []int{10, 20, 30, 40, 50}},
		{"a", "b", []uint64{1<<61 - 3, 1}, []int{api.MaxPower - 1, 1}},
		{"a", "b", all, ones},
	} {
		c, e := chain.New(x.own, x.other, x.secrets, x.powers)
		if e != api.OK || c == nil {
			t.Fatalf("New: %d", e)
		}
		noBlocks(t, c)
		a := c.App()
		if want := setOf(x.secrets, x.powers); !slices.Equal(a.Set(), want) {
			t.Errorf("the set is %v, not %v", a.Set(), want)
		}
		if len(a.Entries()) > 0 || len(a.Sent()) > 0 || a.Known() != 0 {
			t.Errorf("%v, %v, %d", a.Entries(), a.Sent(), a.Known())
		}
		made(t, c, 1)
		l := light(t, c, 1)
		if l.Header.Chain != x.own || len(l.Commit.Seals) != len(x.secrets) {
			t.Errorf("%+v", l)
		}
		expect(t, "Grant", c.App().Grant("ann", x.other+"/coin", 1), api.ErrName)
		expect(t, "Grant", c.App().Grant("ann", x.own+"/coin", 1), api.OK)
		sound(t, c, x.own)
	}
}

// newCall is one of New, fault makes one thing of it wrong; those whose rank is lower are answered first.
type newCall struct {
	own, other string
	secrets    []uint64
	powers     []int
}

type newFault struct {
	rank int
	want api.Errno
	make func(x *newCall)
}

func newFaults() []newFault {
	var l []newFault
	put := func(rank int, want api.Errno, f func(x *newCall)) { l = append(l, newFault{rank, want, f}) }
	put(0, api.ErrArg, func(x *newCall) { x.powers = x.powers[:len(x.powers)-1] })
	put(0, api.ErrArg, func(x *newCall) { x.powers = append(x.powers, 1) })
	put(0, api.ErrArg, func(x *newCall) { x.secrets = x.secrets[:1] })
	put(0, api.ErrArg, func(x *newCall) { x.secrets = append(x.secrets, 77) })
	for _, s := range []uint64{0, 1<<61 - 2, 1<<61 - 1, 1 << 61, math.MaxUint64} {
		for i := range 3 {
			put(1, api.ErrSecret, func(x *newCall) {
				if i < len(x.secrets) {
					x.secrets[i] = s
				} else {
					x.secrets[0] = s
				}
			})
		}
	}
	put(2, api.ErrSet, func(x *newCall) { x.secrets[1] = x.secrets[0] })
	put(2, api.ErrSet, func(x *newCall) { x.secrets[0] = x.secrets[2] })
	for _, n := range []int{math.MinInt, -1, 0, api.MaxPower - 2, api.MaxPower + 1, math.MaxInt} {
		put(2, api.ErrSet, func(x *newCall) { x.powers[0] = n })
	}
	put(2, api.ErrSet, func(x *newCall) {
		for i := range api.MaxValidators - 2 {
			x.secrets, x.powers = append(x.secrets, uint64(100+i)), append(x.powers, 1)
		}
	})
	for _, name := range append(wrongNames, "b") {
		put(3, api.ErrName, func(x *newCall) { x.own = name })
	}
	for _, name := range append(wrongNames, "a") {
		put(3, api.ErrName, func(x *newCall) { x.other = name })
	}
	return l
}

func TestNewFaults(t *testing.T) { // P22.1 (B1), rules 1 and 2
	tried := func(want api.Errno, faults ...newFault) {
		t.Helper()
		x := newCall{"a", "b", []uint64{5, 6, 7}, []int{1, 2, 1}}
		for _, f := range faults {
			f.make(&x)
		}
		if c, e := chain.New(x.own, x.other, x.secrets, x.powers); c != nil || e != want {
			t.Errorf("New(%+v): %v, %d, not %d", x, c, e, want)
		}
	}
	for _, f := range newFaults() {
		tried(f.want, f)
		for _, g := range newFaults() {
			if f.rank < g.rank {
				tried(f.want, g, f)
			}
		}
	}
	for _, x := range []newCall{{"a", "b", nil, nil}, {"A", "A", []uint64{}, []int{}}} {
		if c, e := chain.New(x.own, x.other, x.secrets, x.powers); c != nil || e != api.ErrSet {
			t.Errorf("New of nobody: %v, %d", c, e)
		}
	}
	for _, x := range []newCall{{"a", "b", nil, []int{1}}, {"a", "b", []uint64{0}, nil}} {
		if c, e := chain.New(x.own, x.other, x.secrets, x.powers); c != nil || e != api.ErrArg {
			t.Errorf("New of unlike lists: %v, %d", c, e)
		}
	}
}

// grants are such as are given, and such as are refused.
var grants = []struct {
	account, denom string
	n              uint64
}{
	{"ann", "coin", 5}, {"bob", "a/coin", 7}, {"bob", "bb/coin", 1}, {"ann", "coin", math.MaxUint64}, {"ann", "coin", math.MaxUint64 - 105},
	{"escrow", "coin", 5}, {"ann", "b/coin", 5}, {"ann", "/", 5}, {"A", "coin", 5}, {"ann", "coin", 0}, {"", "", 0},
}

func TestGrant(t *testing.T) { // P22.1 (B1), rule 1
	c, a := begun(t, "a", "b"), appOf(t, "a", "b")
	seen := map[api.Errno]bool{}
	for _, g := range grants {
		e := c.Grant(g.account, g.denom, g.n)
		expect(t, "Grant", e, a.Grant(g.account, g.denom, g.n))
		seen[e] = true
		if !slices.Equal(c.App().Entries(), a.Entries()) {
			t.Errorf("%v, not %v", c.App().Entries(), a.Entries())
		}
	}
	if len(seen) != 4 {
		t.Errorf("%v", seen)
	}
	late := seed(func() *chain.Chain {
		c := begun(t, "a", "b")
		made(t, c, 10)
		return c
	})
	for _, g := range grants {
		late.unchanged(t, func(c *chain.Chain) { expect(t, "Grant, late", c.Grant(g.account, g.denom, g.n), api.ErrBlock) })
	}
	refused := begun(t, "a", "b")
	expect(t, "Block", refused.Block(0, 0, nil), api.ErrOrder)
	expect(t, "Grant behind a block that was refused", refused.Grant("ann", "coin", 1), api.OK)
	submit(t, refused, pay("ann", "bob", "coin", 1))
	expect(t, "Grant behind a Submit", refused.Grant("ann", "coin", 1), api.OK)
	made(t, refused, 1)
	proves(t, refused, 1, entries("bank/coin/ann", "101"), "bank/coin/ann")
}

// rootOf is a block of chain b.
func rootOf(t *testing.T) api.Light {
	t.Helper()
	b := begun(t, "b", "a")
	made(t, b, 10)
	made(t, b, 20)
	return light(t, b, 2)
}

func TestTrust(t *testing.T) { // P22.1 (B1)
	root := rootOf(t)
	other := root
	other.Header.Chain = "a"
	unsound := root
	unsound.Next = nil
	for _, blocks := range []int{0, 1, 2} {
		s := seed(func() *chain.Chain {
			c := begun(t, "a", "b")
			for h := range blocks {
				made(t, c, h+1)
			}
			return c
		})
		for _, x := range []struct {
			root api.Light
			now  float64
			o    api.Options
			want api.Errno
		}{
			{other, 30, patient, api.ErrChain}, {other, 30, api.Options{}, api.ErrChain}, {api.Light{}, 30, patient, api.ErrChain},
			{root, 30, api.Options{}, api.ErrOptions}, {root, math.NaN(), patient, api.ErrClock}, {unsound, 30, patient, api.ErrSet},
			{root, 30, api.Options{Level: 0.5, Period: 10}, api.ErrExpired},
		} {
			s.unchanged(t, func(c *chain.Chain) { expect(t, "Trust", c.Trust(x.root, x.now, x.o), x.want) })
		}
		c := s()
		expect(t, "Trust", c.Trust(root, 30, patient), api.OK)
		if c.App().Known() != 2 {
			t.Errorf("%d is known", c.App().Known())
		}
		expect(t, "Trust again", c.Trust(root, 30, patient), api.ErrDone)
		expect(t, "Trust of another chain", c.Trust(other, 30, patient), api.ErrChain)
		// A root is no part of the state.
		made(t, c, 40)
		proved(t, c, blocks+1, entries("bank/coin/ann", "100", "bank/a/coin/bob", "50"))
	}
}

func TestSubmit(t *testing.T) { // P22.1 (B1, B2)
	c := begun(t, "a", "b")
	for round := range 3 {
		for i := range api.MaxTxs {
			// The last one has what is left, so their order counts.
			submit(t, c, pay("ann", "bob", "coin", uint64(i%3)))
		}
		for _, x := range []api.Tx{{}, pay("ann", "bob", "coin", 1), powers()} {
			expect(t, "Submit of one too many", c.Submit(x), api.ErrBlock)
		}
		expect(t, "Block", c.Block(round, 0, nil), api.ErrOrder)
		expect(t, "Submit behind a block that was refused", c.Submit(api.Tx{}), api.ErrBlock)
		made(t, c, round+1)
		r := c.Results(round + 1)
		if len(r) != api.MaxTxs {
			t.Fatalf("%d results", len(r))
		}
		for i, e := range r {
			want := api.OK
			if i%3 == 0 {
				want = api.ErrArg
			}
			if round == 2 {
				continue
			}
			expect(t, "result", e, want)
		}
	}
	left := c.App().Bank().Balance("ann", "coin")
	submit(t, c, pay("ann", "bob", "coin", left+1), pay("ann", "bob", "coin", left), pay("ann", "bob", "coin", 1), pay("bob", "ann", "coin", 1), pay("ann", "bob", "coin", 1))
	made(t, c, 9)
	if want := []api.Errno{api.ErrBalance, api.OK, api.ErrBalance, api.OK, api.OK}; !slices.Equal(c.Results(4), want) {
		t.Errorf("%v, not %v", c.Results(4), want)
	}
	made(t, c, 10)
	if r := c.Results(5); len(r) != 0 {
		t.Errorf("%v of no transactions", r)
	}
}

// TestApp: it is a copy.
func TestApp(t *testing.T) { // P22.1 (B1), rule 4
	s := seed(func() *chain.Chain {
		c := begun(t, "a", "b")
		made(t, c, 10)
		expect(t, "Trust", c.Trust(rootOf(t), 30, patient), api.OK)
		submit(t, c, send("ann", "bob", "coin", 1, 9))
		made(t, c, 20)
		return c
	})
	s.unchanged(t, func(c *chain.Chain) {
		a, b := c.App(), c.App()
		if a == b {
			t.Error("one app twice")
		}
		expect(t, "Run", a.Run(pay("ann", "bob", "coin", 5), 1, 1), api.OK)
		expect(t, "Run", a.Run(send("ann", "bob", "coin", 5, 9), 1, 1), api.OK)
		expect(t, "Run", a.Run(powers(api.Validator{Key: 9, Power: 1}), 1, 1), api.OK)
		expect(t, "Grant", a.Grant("ann", "coin", 5), api.OK)
		if len(b.Sent()) != 1 || len(b.Set()) != 3 || b.Bank().Balance("bob", "coin") != 0 {
			t.Error("the second copy is not apart")
		}
	})
	was := s().App()
	c := s()
	then := c.App()
	goOn(c)
	if !slices.Equal(then.Entries(), was.Entries()) {
		t.Error("a copy goes on with the chain")
	}
}

func TestNil(t *testing.T) { // P22.1 (B3), rule 8, P1
	var c *chain.Chain
	expect(t, "Grant", c.Grant("ann", "coin", 1), api.ErrArg)
	expect(t, "Grant", c.Grant("", "", 0), api.ErrArg)
	expect(t, "Trust", c.Trust(rootOf(t), 30, patient), api.ErrArg)
	expect(t, "Trust", c.Trust(api.Light{}, math.NaN(), api.Options{}), api.ErrArg)
	expect(t, "Submit", c.Submit(api.Tx{}), api.ErrArg)
	expect(t, "Block", c.Block(1, 0, nil), api.ErrArg)
	expect(t, "Block", c.Block(-1, -1, []bool{false}), api.ErrArg)
	if c.Height() != 0 || c.App() != nil {
		t.Error("a nil chain has something")
	}
	for _, h := range []int{math.MinInt, -1, 0, 1, math.MaxInt} {
		missing(t, c, h, api.ErrArg)
	}
	var a *app.App = c.App()
	if a.Root() != (api.Hash{}) {
		t.Error("the app of a nil chain")
	}
}

// TestHeights: just the heights that there are.
func TestHeights(t *testing.T) { // P22.1 (B3)
	c := begun(t, "a", "b")
	for h := 1; h <= 5; h++ {
		if c.Height() != h-1 {
			t.Errorf("height %d, not %d", c.Height(), h-1)
		}
		for _, beyond := range []int{math.MinInt, -h, -1, 0, h, h + 1, math.MaxInt} {
			missing(t, c, beyond, api.ErrBlock)
		}
		submit(t, c, pay("ann", "bob", "coin", uint64(h)), api.Tx{Kind: api.TxKind(h + 7)})
		made(t, c, 3*h)
		for known := 1; known <= h; known++ {
			l := light(t, c, known)
			if l.Header.Height != known || l.Header.Time != 3*known || l.Commit.Height != known {
				t.Errorf("%d: %+v", known, l)
			}
			if want := []api.Errno{api.OK, api.ErrTx}; !slices.Equal(c.Results(known), want) {
				t.Errorf("%d: %v", known, c.Results(known))
			}
		}
	}
	sound(t, c, "a")
}

// TestFull: of more entries than a tree may have there is no root, and no proof.
func TestFull(t *testing.T) { // P22.1 (B2, B3), P1
	for _, more := range []int{0, 1} {
		c, e := chain.New("a", "b", crew(), crewPowers())
		expect(t, "New", e, api.OK)
		for i := range api.MaxEntries + more {
			expect(t, "Grant", c.Grant(lettered(i), "coin", 1), api.OK)
		}
		made(t, c, 1)
		l := light(t, c, 1)
		sound(t, c, "a")
		p, e := c.Proof(1, "bank/coin/aaaa")
		if more == 0 {
			if v, is, ok := merkle.Check(l.Header.App, "bank/coin/aaaa", p); e != api.OK || v != "1" || !is || !ok || p.Size != api.MaxEntries {
				t.Errorf("%v, %d", p, e)
			}
			continue
		}
		if e != api.ErrEntries || p.Size != 0 || len(p.Parts) > 0 || l.Header.App != (api.Hash{}) {
			t.Errorf("%v, %d, %v", p, e, l.Header.App)
		}
	}
}

// lettered is an account of its own for each number.
func lettered(n int) string {
	b := []byte("aaaa")
	for i := range b {
		b[i] += byte(n % 26)
		n /= 26
	}
	return string(b)
}
