package verify_test

import (
	"math"
	"slices"
	"strings"
	"testing"

	"nuncio/api"
	"nuncio/forms"
	"nuncio/tally"
	"nuncio/verify"
)

func TestRightOptions(t *testing.T) { // P15.1 (C1)
	third := math.Float64frombits(0x3FD5555555555555)
	for _, level := range []float64{third, 1.0 / 3, above(third), 0.5, 2.0 / 3, below(1), 1} {
		for _, period := range []float64{tiny, 1, 1e300, math.MaxFloat64, infinity} {
			for _, drift := range []float64{0, minusZero, tiny, 5, math.MaxFloat64, infinity} {
				o := api.Options{Level: level, Period: period, Drift: drift}
				if !verify.Right(o) {
					t.Errorf("not right: %v", o)
				}
			}
		}
	}
}

func wrongOptions() []api.Options {
	var l []api.Options
	zero := minusZero + 0
	for _, f := range append(nans(), zero/zero, 0, minusZero, tiny, 0.3, below(1.0/3), -1.0/3, -0.5, -1, above(1), 2, math.MaxFloat64, infinity, belowAll) {
		l = append(l, api.Options{Level: f, Period: 100, Drift: 5})
	}
	for _, f := range append(nans(), 0, minusZero, -tiny, -100, belowAll) {
		l = append(l, api.Options{Level: 0.5, Period: f, Drift: 5})
	}
	for _, f := range append(nans(), -tiny, -5, -math.MaxFloat64, belowAll) {
		l = append(l, api.Options{Level: 0.5, Period: 100, Drift: f})
	}
	nan := math.NaN()
	return append(l, api.Options{}, api.Options{Level: nan, Period: nan, Drift: nan}, api.Options{Level: infinity, Period: infinity, Drift: infinity})
}

func TestWrongOptions(t *testing.T) { // P15.1 (C1, C2)
	for _, o := range wrongOptions() {
		if verify.Right(o) {
			t.Errorf("right: %v", o)
		}
		for _, w := range []world{adjacent(), distant()} {
			if e := verify.Step(w.trusted.light(), w.l.light(), w.now, o); e != api.ErrOptions {
				t.Errorf("Step with %v: %d", o, e)
			}
		}
	}
}

// clock is a call of Expired.
type clock struct {
	t           int
	now, period float64
	want        bool
}

func clocks() []clock {
	l := []clock{
		{10, 20, 10, true}, {10, below(20), 10, false}, {10, 20, above(10), false}, {10, 20, below(10), true}, {10, 10, tiny, false}, {10, above(10), tiny, true},
		{0, 0, tiny, false}, {0, minusZero, tiny, false}, {0, tiny, tiny, true}, {0, tiny, 2 * tiny, false}, {0, -5, tiny, false}, {10, 9, tiny, false},
		{-10, 0, 10, true}, {-10, 0, above(10), false},
		{10, math.MaxFloat64, infinity, false}, {10, math.MaxFloat64, math.MaxFloat64, true}, {10, -math.MaxFloat64, tiny, false}, {10, belowAll, 1, false}, {10, infinity, 1e300, true}, {10, infinity, infinity, true},
		// A period that is not right: what is not less is too old.
		{10, 10, 0, true}, {10, 9, 0, false}, {10, 0, -10, true}, {10, belowAll, belowAll, true}, {10, 0, belowAll, true},
		// S is the nearest number, the even one of two: 2^53 of one more, 2^53 + 4 of three more.
		{1<<53 + 1, 1 << 53, tiny, false}, {1<<53 + 1, above(1 << 53), 2, true}, {1<<53 + 3, 1<<53 + 4, 1, false}, {1<<53 + 3, 1<<53 + 4, tiny, false},
		{math.MaxInt, 1 << 63, tiny, false}, {math.MaxInt, above(1 << 63), 2048, true}, {math.MinInt, 0, 1 << 63, true}, {math.MinInt, 0, above(1 << 63), false}, {math.MinInt + 1, 0, 1 << 63, true},
		// The difference is rounded, too: 2^53 + 3 to 2^53 + 4, 2^53 + 1 to 2^53.
		{-1, 1<<53 + 2, 1<<53 + 4, true}, {-1, 1 << 53, 1<<53 + 2, false}, {-1, 1 << 53, above(1 << 53), false}, {-1, below(1), 2, true},
		{10, tiny, 1, false}, {-10, tiny, 10, true}, {-10, tiny, above(10), false},
	}
	for _, n := range nans() {
		l = append(l, clock{10, n, 100, true}, clock{10, n, infinity, true}, clock{math.MaxInt, n, 1, true}, clock{10, n, n, true}, clock{10, 11, n, true}, clock{10, -11, n, true}, clock{10, belowAll, n, true})
	}
	return l
}

func TestExpired(t *testing.T) { // P15.1 (C1)
	for _, c := range clocks() {
		// The other options count for nothing.
		for _, o := range []api.Options{{Level: 0.5, Period: c.period}, {Level: math.NaN(), Period: c.period, Drift: math.NaN()}, {Level: 7, Period: c.period, Drift: -infinity}} {
			if got := verify.Expired(c.t, c.now, o); got != c.want {
				t.Errorf("Expired(%d, %v, %v): %v", c.t, c.now, o, got)
			}
		}
	}
}

// fault makes one thing of a draft wrong; form is that of a light block's bytes.
type fault struct {
	name string
	want api.Errno
	make func(*draft)
}

func bent(name string, want api.Errno, f func(*api.Header)) fault {
	return fault{name, want, func(d *draft) { d.bend = append(d.bend, f) }}
}

func spoiled(name string, want api.Errno, f func(*api.Commit)) fault {
	return fault{name, want, func(d *draft) { d.spoil = append(d.spoil, f) }}
}

// timeForms are faults of a header's height or time, which Step may tell by other errors.
func timeForms() []fault {
	var l []fault
	for _, n := range []int{0, -1, math.MinInt, api.MaxHeight + 1, math.MaxInt} {
		l = append(l, bent("header's height", api.ErrForm, func(h *api.Header) { h.Height = n }))
	}
	for _, n := range []int{-1, math.MinInt, api.MaxHeight + 1, math.MaxInt} {
		l = append(l, bent("header's time", api.ErrForm, func(h *api.Header) { h.Time = n }))
	}
	return l
}

func commitForms() []fault {
	var l []fault
	for _, n := range []int{0, -1, math.MinInt, api.MaxHeight + 1, math.MaxInt} {
		l = append(l, spoiled("commit's height", api.ErrForm, func(c *api.Commit) { c.Height = n }))
	}
	for _, n := range []int{-1, math.MinInt, api.MaxRound + 1, math.MaxInt} {
		l = append(l, spoiled("commit's round", api.ErrForm, func(c *api.Commit) { c.Round = n }))
	}
	return append(l,
		spoiled("65 seals", api.ErrForm, func(c *api.Commit) { c.Seals = make([]api.Seal, 65) }),
		spoiled("5000 seals", api.ErrForm, func(c *api.Commit) { c.Seals = make([]api.Seal, 5000) }))
}

// namedSet is a set that is not right.
type namedSet struct {
	name string
	set  []api.Validator
}

func wrongSets() []namedSet {
	fallen := crowd(4)
	slices.Reverse(fallen)
	powerless, strong, below0 := crowd(4), crowd(4), crowd(4)
	powerless[3].Power, strong[2].Power, below0[1].Power = 0, api.MaxPower-2, -1
	return []namedSet{
		{"none", nil}, {"keys that fall", fallen}, {"a key twice", append(crowd(4), crowd(4)[3])}, {"no power", powerless}, {"too much power", strong}, {"power below 0", below0}, {"65", crowd(65)},
	}
}

func setFaults() []fault {
	var l []fault
	for _, x := range wrongSets() {
		l = append(l, fault{"set: " + x.name, api.ErrSet, func(d *draft) { d.set = x.set }}, fault{"next: " + x.name, api.ErrSet, func(d *draft) { d.next = x.set }})
	}
	return l
}

func hashFaults() []fault {
	return []fault{
		bent("set's hash: first bit", api.ErrSetHash, func(h *api.Header) { h.Set[0] ^= 128 }),
		bent("set's hash: last bit", api.ErrSetHash, func(h *api.Header) { h.Set[31] ^= 1 }),
		bent("set's hash: none", api.ErrSetHash, func(h *api.Header) { h.Set = api.Hash{} }),
		bent("next's hash: first bit", api.ErrSetHash, func(h *api.Header) { h.Next[0] ^= 128 }),
		bent("next's hash: last bit", api.ErrSetHash, func(h *api.Header) { h.Next[31] ^= 1 }),
		bent("next's hash: none", api.ErrSetHash, func(h *api.Header) { h.Next = api.Hash{} }),
		{"hashes changed over", api.ErrSetHash, func(d *draft) {
			d.next = crowd(5)
			d.bend = append(d.bend, func(h *api.Header) { h.Set, h.Next = h.Next, h.Set })
		}},
		{"another set", api.ErrSetHash, func(d *draft) {
			d.bend = append(d.bend, func(h *api.Header) { h.Set, _ = forms.SetHash(crowd(3)) })
		}},
	}
}

// resealed is a commit that is bent and signed anew, by the first three.
func resealed(name string, f func(*api.Commit)) fault {
	return spoiled(name, api.ErrCommit, func(c *api.Commit) {
		f(c)
		c.Seals = sealed("a", *c, upTo(3)...)
	})
}

func commitFaults() []fault {
	return []fault{
		resealed("commit of the height below", func(c *api.Commit) { c.Height-- }),
		resealed("commit of the height above", func(c *api.Commit) { c.Height++ }),
		resealed("commit of another block", func(c *api.Commit) { c.Block[31] ^= 1 }),
		resealed("commit of none", func(c *api.Commit) { c.Block = api.Hash{} }),
		{"bent behind the signing", api.ErrCommit, func(d *draft) {
			old := d.light().Commit
			d.bend = append(d.bend, func(h *api.Header) { h.App[5]++ })
			d.spoil = append(d.spoil, func(c *api.Commit) { *c = old })
		}},
		{"half of the power", api.ErrCommit, func(d *draft) { d.secrets = upTo(2) }},
		{"no seals", api.ErrCommit, func(d *draft) { d.secrets = nil }},
		{"a stranger's seal", api.ErrCommit, func(d *draft) { d.secrets = append(upTo(4), 9) }},
		spoiled("keys that fall", api.ErrCommit, func(c *api.Commit) { slices.Reverse(c.Seals) }),
		spoiled("a seal twice", api.ErrCommit, func(c *api.Commit) { c.Seals = append(c.Seals, *lastSeal(c)) }),
		spoiled("a seal spoiled", api.ErrCommit, func(c *api.Commit) { lastSeal(c).Sig.S ^= 1 }),
		spoiled("a seal empty", api.ErrCommit, func(c *api.Commit) { lastSeal(c).Sig = api.Sig{} }),
		spoiled("seals of another round", api.ErrCommit, func(c *api.Commit) { c.Round++ }),
		spoiled("seals of another chain", api.ErrCommit, func(c *api.Commit) { c.Seals = sealed("b", *c, upTo(4)...) }),
		spoiled("prevotes", api.ErrCommit, prevoted),
	}
}

// lastSeal is there in the end, where nobody signed.
func lastSeal(c *api.Commit) *api.Seal {
	if len(c.Seals) == 0 {
		c.Seals = []api.Seal{{}}
	}
	return &c.Seals[len(c.Seals)-1]
}

// prevoted has prevotes' signatures.
func prevoted(c *api.Commit) {
	for i, s := range c.Seals {
		for _, secret := range upTo(4) {
			if keyOf(secret) == s.Key {
				v, _ := tally.Sign(secret, api.Vote{Chain: "a", Height: c.Height, Round: c.Round, Type: api.Prevote, Block: c.Block})
				c.Seals[i].Sig = v.Sig
			}
		}
	}
}

func soundFaults() []fault {
	return slices.Concat(commitForms(), setFaults(), hashFaults(), commitFaults())
}

func TestSound(t *testing.T) { // P15.1 (C1)
	edge := first()
	edge.header = api.Header{Chain: "abcdefghijklmnop", Height: api.MaxHeight, Time: api.MaxHeight}
	edge.round = api.MaxRound
	least := first()
	least.header = api.Header{Chain: "z", Height: 1}
	least.set, least.next, least.round, least.secrets = setOf(1), crowd(64), 0, upTo(1)
	most := first()
	most.set, most.next, most.secrets = crowd(64), setOf(api.MaxPower), upTo(43)
	strong := first()
	strong.set, strong.secrets = setOf(1, api.MaxPower-1), []uint64{2}
	for _, d := range []draft{first(), second(), adjacent().l, distant().l, edge, least, most, strong} {
		l := d.light()
		if e := verify.Sound(l.Header.Chain, l); e != api.OK {
			t.Errorf("%+v: %d", l.Header, e)
		}
	}
	most.secrets = upTo(42)
	if e := verify.Sound("a", most.light()); e != api.ErrCommit {
		t.Errorf("42 of 64: %d", e)
	}
	thirds := first()
	thirds.set, thirds.secrets = crowd(3), upTo(2)
	if e := verify.Sound("a", thirds.light()); e != api.ErrCommit {
		t.Errorf("two of three: %d", e)
	}
}

func TestUnsound(t *testing.T) { // P15.1 (C1)
	for _, f := range append(timeForms(), soundFaults()...) {
		d := first()
		f.make(&d)
		if e := verify.Sound("a", d.light()); e != f.want {
			t.Errorf("%s: %d, not %d", f.name, e, f.want)
		}
	}
	if e := verify.Sound("", api.Light{}); e != api.ErrForm {
		t.Errorf("the zero value: %d", e)
	}
}

func TestUnsoundNames(t *testing.T) { // P15.1 (C1)
	for _, name := range []string{"", "A", "a1", "a b", "`", "{", "\xff", "abcdefghijklmnopq", strings.Repeat("a", 5000)} {
		d := first()
		d.header.Chain = name
		for _, chain := range []string{name, "a"} {
			if e := verify.Sound(chain, d.light()); e != api.ErrForm {
				t.Errorf("header of %q for %q: %d", name, chain, e)
			}
		}
		if e := verify.Sound(name, first().light()); e != api.ErrChain {
			t.Errorf("for %q: %d", name, e)
		}
	}
	for _, name := range []string{"b", "aa", "z", "abcdefghijklmnop"} {
		d := first()
		d.header.Chain = name
		if e := verify.Sound(name, d.light()); e != api.OK {
			t.Errorf("header of %q: %d", name, e)
		}
		if e := verify.Sound("a", d.light()); e != api.ErrChain {
			t.Errorf("header of %q for a: %d", name, e)
		}
	}
}

// TestUnsoundTwice: of two faults the one that is named first is told.
func TestUnsoundTwice(t *testing.T) { // P15.1 (C1), rule 1
	rank := map[api.Errno]int{api.ErrForm: 0, api.ErrChain: 1, api.ErrSet: 2, api.ErrSetHash: 3, api.ErrCommit: 4}
	faults := append(timeForms(), soundFaults()...)
	for _, f := range faults {
		for _, g := range faults {
			if rank[f.want] >= rank[g.want] {
				continue
			}
			d := first()
			g.make(&d)
			f.make(&d)
			if e := verify.Sound("a", d.light()); e != f.want {
				t.Errorf("%s, and %s: %d, not %d", f.name, g.name, e, f.want)
			}
		}
		want := f.want
		if rank[want] > rank[api.ErrChain] {
			want = api.ErrChain
		}
		d := first()
		f.make(&d)
		if e := verify.Sound("b", d.light()); e != want {
			t.Errorf("%s, of another chain: %d, not %d", f.name, e, want)
		}
	}
}
