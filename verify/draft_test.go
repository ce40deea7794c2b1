package verify_test

import (
	"cmp"
	"math"
	"math/rand/v2"
	"slices"

	"nuncio/api"
	"nuncio/forms"
	"nuncio/schnorr"
	"nuncio/tally"
)

func random() *rand.Rand { return rand.New(rand.NewPCG(15, 16)) }

func keyOf(secret uint64) uint64 {
	key, _ := schnorr.Key(secret)
	return key
}

// setOf has the keys of the secrets 1, 2 and so on with these powers, by their keys; of power 0 none.
func setOf(powers ...int) []api.Validator {
	var l []api.Validator
	for i, p := range powers {
		if p != 0 {
			l = append(l, api.Validator{Key: keyOf(uint64(i + 1)), Power: p})
		}
	}
	slices.SortFunc(l, func(a, b api.Validator) int { return cmp.Compare(a.Key, b.Key) })
	return l
}

// crowd has n validators of power 1, with the secrets from 1 on.
func crowd(n int) []api.Validator {
	return setOf(slices.Repeat([]int{1}, n)...)
}

// upTo are the secrets 1 to n.
func upTo(n int) []uint64 {
	var l []uint64
	for i := range n {
		l = append(l, uint64(i+1))
	}
	return l
}

// draft is a light block that is still to be signed.
type draft struct {
	header    api.Header
	set, next []api.Validator
	round     int
	secrets   []uint64            // of those who sign
	bend      []func(*api.Header) // behind the sets' hashes, ahead of its own
	spoil     []func(*api.Commit) // behind the signing
}

// light has the hashes and the seals, by rising keys. Of what is not right it has those that there are.
func (d draft) light() api.Light {
	h := d.header
	h.Set, _ = forms.SetHash(d.set)
	h.Next, _ = forms.SetHash(d.next)
	for _, f := range d.bend {
		f(&h)
	}
	c := api.Commit{Height: h.Height, Round: d.round}
	c.Block, _ = forms.HeaderHash(h)
	c.Seals = sealed(h.Chain, c, d.secrets...)
	for _, f := range d.spoil {
		f(&c)
	}
	return api.Light{Header: h, Commit: c, Set: slices.Clone(d.set), Next: slices.Clone(d.next)}
}

// sealed are the seals of a commit, by rising keys.
func sealed(chain string, c api.Commit, secrets ...uint64) []api.Seal {
	var l []api.Seal
	for _, s := range secrets {
		v, _ := tally.Sign(s, api.Vote{Chain: chain, Height: c.Height, Round: c.Round, Type: api.Precommit, Block: c.Block})
		l = append(l, api.Seal{Key: keyOf(s), Sig: v.Sig})
	}
	slices.SortFunc(l, func(a, b api.Seal) int { return cmp.Compare(a.Key, b.Key) })
	return l
}

// first is the block that the tests trust: four validators of power 1, all of whom signed.
func first() draft {
	return draft{
		header: api.Header{Chain: "a", Height: 5, Time: 10, Last: api.Hash{1}, Data: api.Hash{2}, App: api.Hash{3}},
		set:    crowd(4), next: crowd(4), round: 1, secrets: upTo(4),
	}
}

// second is the one of the next height, without the hash of the one ahead.
func second() draft {
	d := first()
	d.header.Height, d.header.Time, d.round, d.secrets = 6, 20, 0, upTo(3)
	return d
}

// world is a call of Step.
type world struct {
	trusted, l draft
	now        float64
	o          api.Options
}

// adjacent steps to the next height, distant to a greater one: both may be, till something is changed.
func adjacent() world {
	w := world{trusted: first(), l: second(), now: 25, o: api.Options{Level: 1.0 / 3, Period: 100, Drift: 5}}
	w.l.header.Last = w.trusted.light().Commit.Block
	return w
}

func distant() world {
	w := adjacent()
	w.l.header.Height = 8
	w.l.header.Last = api.Hash{9}
	return w
}

// nans are some of the many: quiet and signalling ones, of both signs.
func nans() []float64 {
	var l []float64
	for _, b := range []uint64{0x7FF8000000000001, 0x7FF8000000000000, 0x7FF0000000000001, 0x7FFFFFFFFFFFFFFF, 0xFFF8000000000000, 0xFFF0000000000001} {
		l = append(l, math.Float64frombits(b))
	}
	return l
}

var (
	tiny      = math.SmallestNonzeroFloat64
	infinity  = math.Inf(1)
	belowAll  = math.Inf(-1)
	minusZero = math.Copysign(0, -1)
)

func above(f float64) float64 { return math.Nextafter(f, infinity) }

func below(f float64) float64 { return math.Nextafter(f, belowAll) }
