package detect_test

import (
	"cmp"
	"math"
	"math/rand/v2"
	"reflect"
	"slices"

	"nuncio/api"
	"nuncio/forms"
	"nuncio/schnorr"
	"nuncio/tally"
)

func random() *rand.Rand { return rand.New(rand.NewPCG(17, 18)) }

func pick[T any](r *rand.Rand, l ...T) T { return l[r.IntN(len(l))] }

func keyOf(secret uint64) uint64 {
	key, _ := schnorr.Key(secret)
	return key
}

// keysOf are the keys of some secrets, rising.
func keysOf(secrets ...uint64) []uint64 {
	var l []uint64
	for _, s := range secrets {
		l = append(l, keyOf(s))
	}
	slices.Sort(l)
	return l
}

// setOf has the keys of the secrets 1, 2 and so on with these powers, by their keys; of power 0 none.
func setOf(powers ...int) []api.Validator {
	var l []api.Validator
	for i, p := range powers {
		if p != 0 {
			l = append(l, api.Validator{Key: keyOf(uint64(i + 1)), Power: p})
		}
	}
	slices.SortFunc(l, func(a, b api.Validator) int { return cmp.Compare(a.Key, b.Key) })
	return l
}

// crowd has n validators of power 1, with the secrets from 1 on.
func crowd(n int) []api.Validator {
	return setOf(slices.Repeat([]int{1}, n)...)
}

// upTo are the secrets 1 to n.
func upTo(n int) []uint64 {
	var l []uint64
	for i := range n {
		l = append(l, uint64(i+1))
	}
	return l
}

// draft is a light block that is still to be signed.
type draft struct {
	header    api.Header
	set, next []api.Validator
	round     int
	secrets   []uint64            // of those who sign
	bend      []func(*api.Header) // behind the sets' hashes, ahead of its own
	spoil     []func(*api.Commit) // behind the signing
}

// light has the hashes and the seals, by rising keys. Of what is not right it has those that there are.
func (d draft) light() api.Light {
	h := d.header
	h.Set, _ = forms.SetHash(d.set)
	h.Next, _ = forms.SetHash(d.next)
	for _, f := range d.bend {
		f(&h)
	}
	c := api.Commit{Height: h.Height, Round: d.round}
	c.Block, _ = forms.HeaderHash(h)
	c.Seals = sealsOf(h.Chain, c, d.secrets...)
	for _, f := range d.spoil {
		f(&c)
	}
	return api.Light{Header: h, Commit: c, Set: slices.Clone(d.set), Next: slices.Clone(d.next)}
}

// sealsOf are the seals of a commit, by rising keys.
func sealsOf(chain string, c api.Commit, secrets ...uint64) []api.Seal {
	var l []api.Seal
	for _, s := range secrets {
		v, _ := tally.Sign(s, api.Vote{Chain: chain, Height: c.Height, Round: c.Round, Type: api.Precommit, Block: c.Block})
		l = append(l, api.Seal{Key: keyOf(s), Sig: v.Sig})
	}
	slices.SortFunc(l, func(a, b api.Seal) int { return cmp.Compare(a.Key, b.Key) })
	return l
}

// world is a common block and two that conflict above it.
type world struct {
	common, conflicting, other draft
	o                          api.Options
}

// equivocal: of four of power 1 the secrets 2 to 4 signed one block and 1 to 3 another one, in one round, so that 2 and 3 signed both.
func equivocal(height int) world {
	d := draft{
		header: api.Header{Chain: "a", Height: 5, Time: 50, Last: api.Hash{1}, Data: api.Hash{2}, App: api.Hash{3}},
		set:    crowd(4), next: crowd(4), round: 1, secrets: upTo(4),
	}
	w := world{common: d, conflicting: d, other: d, o: api.Options{Level: 0.5, Period: 100, Drift: 5}}
	w.conflicting.header.Height, w.other.header.Height = height, height
	w.conflicting.header.Time, w.other.header.Time = 91, 90
	w.conflicting.secrets, w.other.secrets = []uint64{2, 3, 4}, upTo(3)
	return w
}

// forgetful: the two blocks are of two rounds.
func forgetful(height int) world {
	w := equivocal(height)
	w.conflicting.round = 2
	return w
}

// mad: the conflicting block says something of the state that the other one does not.
func mad(height int) world {
	w := equivocal(height)
	w.conflicting.header.App[31]++
	return w
}

// worlds are right evidence of each kind, at the next height and at greater ones.
func worlds() []world {
	var l []world
	for _, height := range []int{6, 7, 100} {
		l = append(l, equivocal(height), forgetful(height), mad(height))
	}
	return l
}

func (w world) lights() (common, conflicting, other api.Light) {
	return w.common.light(), w.conflicting.light(), w.other.light()
}

// deep is a block with lists of its own, ahead of other elements in their memory.
func deep(l api.Light) api.Light {
	l.Commit.Seals = slices.Concat(l.Commit.Seals, []api.Seal{{Key: 1}, {Key: 2}})[:len(l.Commit.Seals)]
	l.Set = slices.Concat(l.Set, []api.Validator{{Key: 3, Power: 1}, {Key: 4, Power: 1}})[:len(l.Set)]
	l.Next = slices.Concat(l.Next, []api.Validator{{Key: 5, Power: 1}, {Key: 6, Power: 1}})[:len(l.Next)]
	return l
}

// whole is a block with all that lies behind its lists' ends, in memory of its own.
func whole(l api.Light) api.Light {
	l.Commit.Seals = slices.Clone(l.Commit.Seals[:cap(l.Commit.Seals)])
	l.Set = slices.Clone(l.Set[:cap(l.Set)])
	l.Next = slices.Clone(l.Next[:cap(l.Next)])
	return l
}

// spoil writes into all of a block's lists, and behind their ends.
func spoil(l api.Light) {
	clear(l.Commit.Seals[:cap(l.Commit.Seals)])
	clear(l.Set[:cap(l.Set)])
	clear(l.Next[:cap(l.Next)])
}

// isSameLight holds a list without elements and none for the same.
func isSameLight(a, b api.Light) bool {
	return a.Header == b.Header && a.Commit.Height == b.Commit.Height && a.Commit.Round == b.Commit.Round && a.Commit.Block == b.Commit.Block &&
		slices.Equal(a.Commit.Seals, b.Commit.Seals) && slices.Equal(a.Set, b.Set) && slices.Equal(a.Next, b.Next)
}

func isSameEvidence(a, b api.Evidence) bool {
	return a.Kind == b.Kind && a.Common == b.Common && isSameLight(a.Conflicting, b.Conflicting) && slices.Equal(a.Keys, b.Keys)
}

// isNothing: all but lists without elements is zero.
func isNothing(e api.Evidence) bool {
	if len(e.Keys) == 0 {
		e.Keys = nil
	}
	return reflect.DeepEqual(e, api.Evidence{})
}

// headerChanges make one field of a header another one; odd are those by which two blocks are of no chain of one common block.
func headerChanges() (even, odd []func(*api.Header)) {
	even = []func(*api.Header){
		func(h *api.Header) { h.Chain = "b" }, func(h *api.Header) { h.Chain = h.Chain + "a" }, func(h *api.Header) { h.Chain = "" },
		func(h *api.Header) { h.Time++ }, func(h *api.Header) { h.Time = -h.Time }, func(h *api.Header) { h.Time += 1 << 40 },
		func(h *api.Header) { h.Last[0] ^= 128 }, func(h *api.Header) { h.Last[31] ^= 1 },
		func(h *api.Header) { h.Data[0] ^= 128 }, func(h *api.Header) { h.Data[31] ^= 1 },
	}
	odd = []func(*api.Header){
		func(h *api.Header) { h.Set[0] ^= 128 }, func(h *api.Header) { h.Set[31] ^= 1 }, func(h *api.Header) { h.Set = api.Hash{} },
		func(h *api.Header) { h.Next[0] ^= 128 }, func(h *api.Header) { h.Next[31] ^= 1 }, func(h *api.Header) { h.Next = api.Hash{} },
		func(h *api.Header) { h.App[0] ^= 128 }, func(h *api.Header) { h.App[31] ^= 1 }, func(h *api.Header) { h.App = api.Hash{} },
	}
	return even, odd
}

var (
	tiny     = math.SmallestNonzeroFloat64
	infinity = math.Inf(1)
	belowAll = math.Inf(-1)
)

func above(f float64) float64 { return math.Nextafter(f, infinity) }

func below(f float64) float64 { return math.Nextafter(f, belowAll) }
