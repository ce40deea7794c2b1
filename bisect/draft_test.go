package bisect_test

import (
	"cmp"
	"math"
	"math/rand/v2"
	"reflect"
	"slices"
	"testing"

	"nuncio/api"
	"nuncio/bisect"
	"nuncio/forms"
	"nuncio/schnorr"
	"nuncio/tally"
)

func random() *rand.Rand { return rand.New(rand.NewPCG(16, 17)) }

func keyOf(secret uint64) uint64 {
	key, _ := schnorr.Key(secret)
	return key
}

// setOf has the keys of these secrets, of power 1 each, by their keys.
func setOf(secrets ...uint64) []api.Validator {
	var l []api.Validator
	for _, s := range secrets {
		l = append(l, api.Validator{Key: keyOf(s), Power: 1})
	}
	slices.SortFunc(l, func(a, b api.Validator) int { return cmp.Compare(a.Key, b.Key) })
	return l
}

// block is a light block of the chain a that all of its set signed: 10 seconds a height.
func block(height int, last api.Hash, set, next []uint64) api.Light {
	h := api.Header{Chain: "a", Height: height, Time: 10 * height, Last: last, Data: api.Hash{2}, App: api.Hash{3}}
	return sealed(api.Light{Header: h, Set: setOf(set...), Next: setOf(next...)}, set...)
}

// sealed is a light block with the hashes and the seals that it should have.
func sealed(l api.Light, secrets ...uint64) api.Light {
	l.Header.Set, _ = forms.SetHash(l.Set)
	l.Header.Next, _ = forms.SetHash(l.Next)
	l.Commit = commitOf(l.Header, secrets...)
	return l
}

func commitOf(h api.Header, secrets ...uint64) api.Commit {
	c := api.Commit{Height: h.Height}
	c.Block, _ = forms.HeaderHash(h)
	for _, s := range secrets {
		v, _ := tally.Sign(s, api.Vote{Chain: h.Chain, Height: h.Height, Type: api.Precommit, Block: c.Block})
		c.Seals = append(c.Seals, api.Seal{Key: keyOf(s), Sig: v.Sig})
	}
	slices.SortFunc(c.Seals, func(a, b api.Seal) int { return cmp.Compare(a.Key, b.Key) })
	return c
}

// crew are the secrets of a height's set.
type crew func(height int) []uint64

// always: everybody stays, so that each leap is trusted.
func always(height int) []uint64 { return []uint64{1, 2, 3, 4} }

// apart: nobody stays, so that only steps to the next height are trusted.
func apart(height int) []uint64 { return []uint64{2*uint64(height) + 1, 2*uint64(height) + 2} }

// sliding: of four one goes at each height, so that by half a leap of two heights is trusted, one of three is not.
func sliding(height int) []uint64 {
	n := uint64(height)
	return []uint64{n, n + 1, n + 2, n + 3}
}

// slow: of four one goes at each third height.
func slow(height int) []uint64 { return sliding(1 + height/3) }

// turned: everybody goes, at each fifth height.
func turned(height int) []uint64 { return apart(height / 5) }

// chainOf are the blocks of the heights 1 to n; at 0 stands none.
func chainOf(n int, who crew) []api.Light {
	l := []api.Light{{}}
	for h := 1; h <= n; h++ {
		l = append(l, block(h, l[h-1].Commit.Block, who(h), who(h+1)))
	}
	return l
}

// bent is a block with another header, that all of its set signed.
func bent(l api.Light, who crew, f func(*api.Header)) api.Light {
	f(&l.Header)
	l.Commit = commitOf(l.Header, who(l.Header.Height)...)
	return l
}

// half are options by which more than half of a trusted set must sign.
func half() api.Options { return api.Options{Level: 0.5, Period: 1e6, Drift: 5} }

var (
	tiny     = math.SmallestNonzeroFloat64
	infinity = math.Inf(1)
	belowAll = math.Inf(-1)
)

func above(f float64) float64 { return math.Nextafter(f, infinity) }

func below(f float64) float64 { return math.Nextafter(f, belowAll) }

// strange are clocks that tell no time.
func strange() []float64 {
	l := []float64{infinity, belowAll}
	for _, b := range []uint64{0x7FF8000000000001, 0x7FF8000000000000, 0x7FF0000000000001, 0x7FFFFFFFFFFFFFFF, 0xFFF8000000000000, 0xFFF0000000000001} {
		l = append(l, math.Float64frombits(b))
	}
	return l
}

// client is one that must be.
func client(t *testing.T, root api.Light, now float64, o api.Options) *bisect.Client {
	t.Helper()
	c, e := bisect.New(root, now, o)
	if e != api.OK || c == nil {
		t.Fatalf("New: %v, %d", c, e)
	}
	return c
}

// going is a client of a chain's block that has a goal.
func going(t *testing.T, root api.Light, o api.Options, goal int) *bisect.Client {
	t.Helper()
	c := client(t, root, late, o)
	aim(t, c, goal)
	return c
}

// late is a time behind that of all blocks of the tests' chains.
const late = 1e5

func aim(t *testing.T, c *bisect.Client, goal int) {
	t.Helper()
	if e := c.Goal(goal); e != api.OK {
		t.Fatalf("Goal(%d): %d", goal, e)
	}
}

// give: the answer is just that.
func give(t *testing.T, c *bisect.Client, l api.Light, now float64, want api.Errno) {
	t.Helper()
	if e := c.Give(l, now); e != want {
		t.Fatalf("Give of height %d, at %v: %d, not %d", l.Header.Height, now, e, want)
	}
}

// follow gives what is wanted till nothing is, and tells the heights that were.
func follow(t *testing.T, c *bisect.Client, chain []api.Light) []int {
	t.Helper()
	var wanted []int
	for c.Want() != 0 {
		wanted = append(wanted, c.Want())
		give(t, c, chain[c.Want()], late, api.OK)
	}
	return wanted
}

// view is all that can be told of a client.
type view struct {
	want, fetches int
	store, trace  []api.Light
}

func look(c *bisect.Client) view {
	return view{c.Want(), c.Fetches(), c.Store(), c.Trace()}
}

// isSame holds a list without elements and none for the same.
func isSame(a, b view) bool {
	return a.want == b.want && a.fetches == b.fetches && areSame(a.store, b.store) && areSame(a.trace, b.trace)
}

func areSame(a, b []api.Light) bool {
	return len(a) == len(b) && (len(a) == 0 || reflect.DeepEqual(a, b))
}

func heights(l []api.Light) []int {
	var n []int
	for _, x := range l {
		n = append(n, x.Header.Height)
	}
	return n
}

// shows: the client tells just that; the blocks of its store and its trace are the chain's of these heights.
func shows(t *testing.T, c *bisect.Client, chain []api.Light, want, fetches int, store, trace []int) {
	t.Helper()
	v := view{want: want, fetches: fetches}
	for _, h := range store {
		v.store = append(v.store, chain[h])
	}
	for _, h := range trace {
		v.trace = append(v.trace, chain[h])
	}
	if got := look(c); !isSame(got, v) {
		t.Fatalf("wants %d, %d fetches, store %v, trace %v; not %d, %d, %v, %v (or other blocks)", got.want, got.fetches, heights(got.store), heights(got.trace), want, fetches, store, trace)
	}
}

// unchanged runs f, behind which the client tells what it told ahead.
func unchanged(t *testing.T, c *bisect.Client, name string, f func()) {
	t.Helper()
	was := look(c)
	f()
	if got := look(c); !isSame(got, was) {
		t.Fatalf("%s: %+v, not %+v", name, got, was)
	}
}
