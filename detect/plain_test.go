package detect_test

import (
	"math"
	"math/big"
	"math/rand/v2"
	"reflect"
	"slices"
	"testing"

	"nuncio/api"
	"nuncio/detect"
	"nuncio/tally"
	"nuncio/verify"
)

// powerOf is that of the first validator of a key.
func powerOf(set []api.Validator, key uint64) int {
	for _, v := range set {
		if v.Key == key {
			return v.Power
		}
	}
	return 0
}

func plainKind(conflicting, other api.Light) string {
	a, b := conflicting.Header, other.Header
	states := func(h api.Header) [3]api.Hash { return [3]api.Hash{h.Set, h.Next, h.App} }
	if !reflect.DeepEqual(states(a), states(b)) {
		return "lunatic"
	}
	if conflicting.Commit.Round-other.Commit.Round != 0 {
		return "amnesia"
	}
	return "equivocation"
}

// plainClassify goes by H2's words, seal by seal.
func plainClassify(common, conflicting, other api.Light) (api.Evidence, api.Errno) {
	low, a, b := common.Header.Height, conflicting.Header, other.Header
	if a.Height != b.Height || a.Height <= low || reflect.DeepEqual(a, b) {
		return api.Evidence{}, api.ErrMatch
	}
	e := api.Evidence{Kind: plainKind(conflicting, other), Common: low, Conflicting: conflicting}
	for _, s := range conflicting.Commit.Seals {
		named := e.Kind == "lunatic" && powerOf(common.Next, s.Key) != 0
		for _, x := range other.Commit.Seals {
			named = named || e.Kind == "equivocation" && x.Key == s.Key && powerOf(conflicting.Set, s.Key) != 0
		}
		if named && !slices.Contains(e.Keys, s.Key) {
			e.Keys = append(e.Keys, s.Key)
		}
	}
	slices.Sort(e.Keys)
	return e, api.OK
}

// plainShared is the part of a set that signed a commit, and all of it; there is none where Shared has an error.
func plainShared(set []api.Validator, chain string, c api.Commit) (part, total *big.Int, ok bool) {
	part, total = new(big.Int), new(big.Int)
	ok = len(set) >= 1 && len(set) <= 64 && c.Block != (api.Hash{})
	for i, v := range set {
		ok = ok && v.Power >= 1 && (i == 0 || set[i-1].Key < v.Key)
		total.Add(total, big.NewInt(int64(v.Power)))
	}
	for i, s := range c.Seals {
		ok = ok && (i == 0 || c.Seals[i-1].Key < s.Key)
		if powerOf(set, s.Key) == 0 {
			continue
		}
		part.Add(part, big.NewInt(int64(powerOf(set, s.Key))))
		ok = ok && tally.Signed(api.Vote{Chain: chain, Height: c.Height, Round: c.Round, Type: api.Precommit, Block: c.Block, Key: s.Key, Sig: s.Sig})
	}
	return part, total, ok && total.Cmp(big.NewInt(1<<50)) <= 0
}

// plainJudge goes by H3's words.
func plainJudge(common, other api.Light, e api.Evidence, o api.Options) api.Errno {
	is, wrong := plainClassify(common, e.Conflicting, other)
	l, chain := e.Conflicting, common.Header.Chain
	switch {
	case !verify.Right(o):
		return api.ErrOptions
	case wrong != api.OK || !isSameEvidence(is, e):
		return api.ErrMatch
	case verify.Sound(chain, l) != api.OK:
		return verify.Sound(chain, l)
	case verify.Sound(chain, other) != api.OK:
		return verify.Sound(chain, other)
	case l.Header.Height-1 == common.Header.Height:
		if l.Header.Set != common.Header.Next {
			return api.ErrSetHash
		}
		return api.OK
	}
	part, total, ok := plainShared(common.Next, chain, l.Commit)
	if !ok || part.Mul(part, big.NewInt(3)).Cmp(total) <= 0 {
		return api.ErrTrust
	}
	return api.OK
}

func anySet(r *rand.Rand) []api.Validator {
	powers := make([]int, 5)
	for i := range powers {
		powers[i] = pick(r, 0, 1, 1, 2, 3, 5)
	}
	if r.IntN(12) == 0 {
		powers[r.IntN(5)] = pick(r, 1<<49, 1<<50-20, 1<<50, -1, math.MaxInt)
	}
	return setOf(powers...)
}

func anySecrets(r *rand.Rand, set []api.Validator) []uint64 {
	var l []uint64
	for _, s := range upTo(5) {
		if powerOf(set, keyOf(s)) != 0 && r.IntN(7) > 0 || r.IntN(60) == 0 {
			l = append(l, s)
		}
	}
	return l
}

// anyWorld is close to right evidence, with some faults.
func anyWorld(r *rand.Rand) world {
	w := equivocal(5 + pick(r, 1, 1, 2, 2, 5))
	set := anySet(r)
	w.common.next = anySet(r)
	if r.IntN(2) == 0 {
		w.common.next = set
	}
	w.conflicting.set, w.conflicting.next, w.conflicting.round = set, set, r.IntN(2)
	w.other.set, w.other.next, w.other.round = set, set, r.IntN(2)
	if r.IntN(4) == 0 {
		pick(r, &w.conflicting, &w.other).set = anySet(r)
	}
	if r.IntN(4) == 0 {
		w.conflicting.header.App[0]++
	}
	w.conflicting.secrets, w.other.secrets = anySecrets(r, w.conflicting.set), anySecrets(r, w.other.set)
	l := faults()
	even, odd := headerChanges()
	switch r.IntN(20) {
	case 0:
		l[r.IntN(len(l))].make(pick(r, &w.conflicting, &w.other))
	case 1:
		bent("", 0, pick(r, even...)).make(pick(r, &w.common, &w.conflicting, &w.other))
	case 2:
		bent("", 0, pick(r, odd...)).make(pick(r, &w.common, &w.conflicting, &w.other))
	case 3:
		pick(r, &w.common, &w.conflicting, &w.other).header.Height = pick(r, -1, 0, 5, 6, 7, 10)
	case 4:
		w.other.header = w.conflicting.header
	case 5:
		w.o.Level = pick(r, 1.0/3, below(1.0/3), 1, above(1))
	}
	return w
}

// TestAnyEvidence holds any evidence against H2 and H3 told plainly, and what is right against what that means.
func TestAnyEvidence(t *testing.T) { // P17.1, P17.2, P17.3, P2
	r := random()
	seen, blamed := map[api.Errno]int{}, map[string]int{}
	for range 20000 {
		w := anyWorld(r)
		common, conflicting, other := w.lights()
		e, errno := detect.Classify(common, conflicting, other)
		if want, no := plainClassify(common, conflicting, other); errno != no || !isSameEvidence(e, want) {
			t.Fatalf("Classify of %+v, %+v, %+v: %+v, %d; not %+v, %d", common, conflicting, other, e, errno, want, no)
		}
		if l := otherEvidence(e); r.IntN(20) == 0 {
			e = l[r.IntN(len(l))]
		}
		got := detect.Judge(common, other, e, w.o)
		if want := plainJudge(common, other, e, w.o); got != want || got != detect.Judge(common, other, e, w.o) {
			t.Fatalf("Judge of %+v, from %+v, against %+v: %d, not %d", e, common, other, got, want)
		}
		seen[got]++
		// Of a common block whose next set is not the one that its header tells nothing is said at the next height.
		if got == api.OK && (e.Kind != "lunatic" || conflicting.Header.Height > common.Header.Height+1 || slices.Equal(common.Next, conflicting.Set)) {
			blamed[e.Kind]++
			blames(t, common, e)
		}
	}
	for _, kind := range []string{"lunatic", "equivocation", "amnesia"} {
		if blamed[kind] < 100 {
			t.Errorf("%s was right %d times", kind, blamed[kind])
		}
	}
	for _, e := range []api.Errno{api.OK, api.ErrOptions, api.ErrMatch, api.ErrForm, api.ErrChain, api.ErrSet, api.ErrSetHash, api.ErrCommit, api.ErrTrust} {
		if seen[e] < 20 {
			t.Errorf("the answer %d was seen %d times", e, seen[e])
		}
	}
}
