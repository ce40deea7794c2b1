package node

import (
	"iter"

	"nuncio/api"
	"nuncio/round"
	"nuncio/tally"
	"nuncio/valset"
)

// How much is taken in of what lies ahead.
const (
	roundsAhead = 64
	mostKept    = 256
)

// talk is what was said in a round.
type talk struct {
	prevotes, precommits *tally.Tally
	first                message               // the first proposal, if blocks are proposed
	blocks               map[api.Hash]struct{} // all that are
	speakers             map[uint64]struct{}
	power                int // of the speakers
}

// at is what was said in a round of the height, nothing if there was no such round.
func (n *Node) at(r int) talk {
	if t := n.rounds[r]; t != nil {
		return *t
	}
	return talk{}
}

// talkOf is that of a round of which something is said now.
func (n *Node) talkOf(r int) *talk {
	if t := n.rounds[r]; t != nil {
		return t
	}
	t := &talk{blocks: map[api.Hash]struct{}{}, speakers: map[uint64]struct{}{}}
	t.prevotes, _ = tally.New(n.set, n.chain, n.Height(), r, api.Prevote)
	t.precommits, _ = tally.New(n.set, n.chain, n.Height(), r, api.Precommit)
	n.rounds[r] = t
	return t
}

// take takes in a message of the chain and set.
func (n *Node) take(m message) {
	switch {
	case m.Height < n.Height() || m.Round > n.furthest():
		return
	case m.Height == n.Height():
		n.note(m)
	case len(n.kept) < mostKept:
		n.kept = append(n.kept, m)
	}
}

// furthest is the greatest round of which something is taken in.
func (n *Node) furthest() int { return max(n.state.Round, 0) + roundsAhead }

// note takes in a message of the height.
func (n *Node) note(m message) {
	t := n.talkOf(m.Round)
	if _, spoke := t.speakers[m.Key]; !spoke {
		t.speakers[m.Key] = struct{}{}
		t.power += valset.Power(n.set, m.Key)
	}
	switch m.Type {
	case api.Prevote:
		t.prevotes.Add(m.Vote)
	case api.Precommit:
		t.precommits.Add(m.Vote)
	default:
		if len(t.blocks) == 0 {
			t.first = m
		}
		t.blocks[m.Block] = struct{}{}
	}
	if t.decides() && (n.ready == noRound || m.Round < n.ready) {
		n.ready = m.Round
	}
}

// decides tells whether the precommits' winner is proposed. Once it is so it stays so.
func (t talk) decides() bool {
	block, _ := t.precommits.Winner()
	return t.has(block)
}

// has tells whether a block is proposed. None never is.
func (t talk) has(block api.Hash) bool {
	_, is := t.blocks[block]
	return is
}

// seen tells the inputs that what was heard gives, in the order in which they are tried.
func (n *Node) seen() iter.Seq[round.Input] {
	return func(yield func(round.Input) bool) {
		for _, look := range []func() (round.Input, bool){n.decide, n.later, n.propose, n.agreed, n.nothing, n.prevotes, n.precommits} {
			in, is := look()
			in.Good = true
			if is && !yield(in) {
				return
			}
		}
	}
}

func (n *Node) decide() (round.Input, bool) {
	block, won := n.at(n.ready).precommits.Winner()
	return round.Input{Kind: round.Decide, Round: n.ready, Block: block}, won
}

func (n *Node) later() (round.Input, bool) {
	for r := n.furthest(); r > n.state.Round; r-- {
		if tally.One(n.at(r).power, n.total) {
			return round.Input{Kind: round.Later, Round: r}, true
		}
	}
	return round.Input{}, false
}

// propose is of a proposal that names no round, or else of one whose prevotes it can show: till they are heard, nothing is said to it.
func (n *Node) propose() (round.Input, bool) {
	t := n.at(n.state.Round)
	if len(t.blocks) == 0 {
		return round.Input{}, false
	}
	in := round.Input{Kind: round.Propose, Round: n.state.Round, Block: t.first.Block}
	if t.first.valid == noRound {
		return in, true
	}
	block, won := n.at(t.first.valid).prevotes.Winner()
	in.Kind, in.Valid = round.Again, t.first.valid
	return in, won && block == in.Block
}

func (n *Node) agreed() (round.Input, bool) {
	t := n.at(n.state.Round)
	block, won := t.prevotes.Winner()
	return round.Input{Kind: round.Agreed, Round: n.state.Round, Block: block}, won && t.has(block)
}

func (n *Node) nothing() (round.Input, bool) {
	block, won := n.at(n.state.Round).prevotes.Winner()
	return round.Input{Kind: round.Nothing, Round: n.state.Round}, won && block == api.Hash{}
}

func (n *Node) prevotes() (round.Input, bool) {
	return round.Input{Kind: round.Prevotes, Round: n.state.Round}, n.at(n.state.Round).prevotes.Any()
}

func (n *Node) precommits() (round.Input, bool) {
	return round.Input{Kind: round.Precommits, Round: n.state.Round}, n.at(n.state.Round).precommits.Any()
}
