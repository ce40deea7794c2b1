package client_test

import (
	"cmp"
	"maps"
	"math"
	"math/rand/v2"
	"slices"
	"strconv"
	"testing"

	"nuncio/api"
	"nuncio/client"
	"nuncio/forms"
	"nuncio/merkle"
	"nuncio/schnorr"
	"nuncio/tally"
)

func random() *rand.Rand { return rand.New(rand.NewPCG(19, 20)) }

func pick[T any](r *rand.Rand, l ...T) T { return l[r.IntN(len(l))] }

func keyOf(secret uint64) uint64 {
	key, _ := schnorr.Key(secret)
	return key
}

// setOf has the keys of these secrets, of power 1 each, by their keys.
func setOf(secrets ...uint64) []api.Validator {
	var l []api.Validator
	for _, s := range secrets {
		l = append(l, api.Validator{Key: keyOf(s), Power: 1})
	}
	slices.SortFunc(l, func(a, b api.Validator) int { return cmp.Compare(a.Key, b.Key) })
	return l
}

// state are the entries behind a height's block: none at each fifth one, else such as are at no other height.
func state(height int) []api.Entry {
	var l []api.Entry
	for i := range height % 5 {
		l = append(l, api.Entry{Key: "k" + strconv.Itoa(i), Value: strconv.Itoa(height)})
	}
	return l
}

func rootOf(l []api.Entry) api.Hash {
	h, _ := merkle.Root(l)
	return h
}

func proofOf(l []api.Entry, key string) api.Proof {
	p, _ := merkle.Prove(l, key)
	return p
}

// block is a light block of the chain a that all of its set signed: 10 seconds a height.
func block(height int, last api.Hash, set, next []uint64) api.Light {
	h := api.Header{Chain: "a", Height: height, Time: 10 * height, Last: last, Data: api.Hash{2}, App: rootOf(state(height))}
	return sealed(api.Light{Header: h, Set: setOf(set...), Next: setOf(next...)}, set...)
}

// sealed is a light block with the hashes and the seals that it should have.
func sealed(l api.Light, secrets ...uint64) api.Light {
	l.Header.Set, _ = forms.SetHash(l.Set)
	l.Header.Next, _ = forms.SetHash(l.Next)
	l.Commit = commitOf(l.Header, 0, secrets...)
	return l
}

func commitOf(h api.Header, round int, secrets ...uint64) api.Commit {
	c := api.Commit{Height: h.Height, Round: round}
	c.Block, _ = forms.HeaderHash(h)
	for _, s := range secrets {
		v, _ := tally.Sign(s, api.Vote{Chain: h.Chain, Height: h.Height, Round: round, Type: api.Precommit, Block: c.Block})
		c.Seals = append(c.Seals, api.Seal{Key: keyOf(s), Sig: v.Sig})
	}
	slices.SortFunc(c.Seals, func(a, b api.Seal) int { return cmp.Compare(a.Key, b.Key) })
	return c
}

// crew are the secrets of a height's set.
type crew func(height int) []uint64

// always: everybody stays, so that each leap is trusted.
func always(height int) []uint64 { return []uint64{1, 2, 3, 4} }

// sliding: of four one goes at each height, so that by half a leap of two heights is trusted, one of three is not.
func sliding(height int) []uint64 {
	n := uint64(height)
	return []uint64{n, n + 1, n + 2, n + 3}
}

// chainOf are the blocks of the heights 1 to n; at 0 stands none.
func chainOf(n int, who crew) []api.Light {
	l := []api.Light{{}}
	for h := 1; h <= n; h++ {
		l = append(l, block(h, l[h-1].Commit.Block, who(h), who(h+1)))
	}
	return l
}

// bent is a block with another header, that all of its set signed.
func bent(l api.Light, who crew, f func(*api.Header)) api.Light {
	secrets := who(l.Header.Height)
	f(&l.Header)
	l.Commit = commitOf(l.Header, 0, secrets...)
	return l
}

// half are options by which more than half of a trusted set must sign.
func half() api.Options { return api.Options{Level: 0.5, Period: 1e6, Drift: 5} }

// late is a time behind that of all blocks of the tests' chains.
const late = 1e5

var (
	tiny     = math.SmallestNonzeroFloat64
	infinity = math.Inf(1)
	belowAll = math.Inf(-1)
)

func above(f float64) float64 { return math.Nextafter(f, infinity) }

func below(f float64) float64 { return math.Nextafter(f, belowAll) }

// strange are clocks that tell no time.
func strange() []float64 {
	l := []float64{infinity, belowAll}
	for _, b := range []uint64{0x7FF8000000000001, 0x7FF0000000000001, 0x7FFFFFFFFFFFFFFF, 0xFFF8000000000000, 0xFFF0000000000001} {
		l = append(l, math.Float64frombits(b))
	}
	return l
}

// begun is a client that must be.
func begun(t *testing.T, root api.Light, now float64, o api.Options) *client.Client {
	t.Helper()
	c, e := client.New(root, now, o)
	if e != api.OK || c == nil {
		t.Fatalf("New: %v, %d", c, e)
	}
	return c
}

// grown is a client that took in a chain's blocks of these heights, the first one as its root.
func grown(t *testing.T, chain []api.Light, at ...int) *client.Client {
	t.Helper()
	c := begun(t, chain[at[0]], late, half())
	for _, h := range at[1:] {
		update(t, c, chain[h], late, api.OK)
	}
	return c
}

// update: the answer is just that.
func update(t *testing.T, c *client.Client, l api.Light, now float64, want api.Errno) {
	t.Helper()
	if e := c.Update(l, now); e != want {
		t.Fatalf("Update of height %d, at %v: %d, not %d", l.Header.Height, now, e, want)
	}
}

// blame: the answer is just that.
func blame(t *testing.T, c *client.Client, l api.Light, want api.Errno) {
	t.Helper()
	if e := c.Blame(l); e != want {
		t.Fatalf("Blame of height %d: %d, not %d", l.Header.Height, e, want)
	}
}

// view is all that can be told of a client, but for what comes of calls that change it.
type view struct {
	height int
	chain  string
	frozen bool
	roots  map[int]api.Hash
}

func isSame(a, b view) bool {
	return a.height == b.height && a.chain == b.chain && a.frozen == b.frozen && maps.Equal(a.roots, b.roots)
}

// askedHeights are all that the tests' chains have, and others.
func askedHeights() []int {
	l := []int{math.MinInt, -api.MaxHeight, -1, api.MaxHeight - 1, api.MaxHeight, api.MaxHeight + 1, math.MaxInt}
	for h := range 45 {
		l = append(l, h)
	}
	return l
}

func look(t *testing.T, c *client.Client) view {
	t.Helper()
	v := view{c.Height(), c.Chain(), c.Frozen(), map[int]api.Hash{}}
	for _, h := range askedHeights() {
		root, e := c.Root(h)
		switch {
		case e == api.OK:
			v.roots[h] = root
		case e != api.ErrRoot || root != api.Hash{}:
			t.Fatalf("Root(%d): %x, %d", h, root, e)
		}
	}
	return v
}

// shows: the client is not frozen, its front is of the last of these heights of a chain, and it has the App hashes of just these.
func shows(t *testing.T, c *client.Client, chain []api.Light, at ...int) {
	t.Helper()
	v := view{height: at[len(at)-1], chain: "a", roots: map[int]api.Hash{}}
	for _, h := range at {
		v.roots[h] = chain[h].Header.App
	}
	if got := look(t, c); !isSame(got, v) {
		t.Fatalf("%+v, not %+v", got, v)
	}
}

// isFrozen: the client is, and has no App hash.
func isFrozen(t *testing.T, c *client.Client, height int) {
	t.Helper()
	if got := look(t, c); !isSame(got, view{height: height, chain: "a", frozen: true}) {
		t.Fatalf("%+v, not frozen at %d", got, height)
	}
}

// unchanged runs f, behind which the client tells what it told ahead.
func unchanged(t *testing.T, c *client.Client, name string, f func()) {
	t.Helper()
	was := look(t, c)
	f()
	if got := look(t, c); !isSame(got, was) {
		t.Fatalf("%s: %+v, not %+v", name, got, was)
	}
}

// roomy is a block with lists of its own, ahead of other elements in their memory.
func roomy(l api.Light) api.Light {
	l.Commit.Seals = slices.Concat(l.Commit.Seals, []api.Seal{{Key: 1}, {Key: 2}})[:len(l.Commit.Seals)]
	l.Set = slices.Concat(l.Set, []api.Validator{{Key: 3}, {Key: 4}})[:len(l.Set)]
	l.Next = slices.Concat(l.Next, []api.Validator{{Key: 5}, {Key: 6}})[:len(l.Next)]
	return l
}

// whole has what lies behind the lengths too, in memory of its own.
func whole(l api.Light) api.Light {
	l.Commit.Seals = slices.Clone(l.Commit.Seals[:cap(l.Commit.Seals)])
	l.Set = slices.Clone(l.Set[:cap(l.Set)])
	l.Next = slices.Clone(l.Next[:cap(l.Next)])
	return l
}

// spoil writes into all of a block's lists, and behind their ends.
func spoil(l api.Light) {
	clear(l.Commit.Seals[:cap(l.Commit.Seals)])
	clear(l.Set[:cap(l.Set)])
	clear(l.Next[:cap(l.Next)])
}
