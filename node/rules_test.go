package node_test

import (
	"bytes"
	"math"
	"slices"
	"testing"

	"nuncio/api"
	"nuncio/node"
	"nuncio/tally"
	"nuncio/tape"
	"nuncio/wal"
)

// TestDecideAnywhere: who is at no round, or behind by rounds, decides, its own round need not be that one.
func TestDecideAnywhere(t *testing.T) { // P14.1 (N3: Decide)
	for _, r := range []int{0, 1, 3, 64} {
		for _, started := range []bool{false, true} {
			f := newFour(t)
			if started {
				start(t, f.n)
			}
			voters := others(f.secrets, f.me)
			for _, s := range voters {
				hear(t, f.n, precommit(t, s, 1, r, hash(1)))
			}
			if f.n.Height() != 1 {
				t.Fatal("decided what nobody proposed")
			}
			hear(t, f.n, proposal(t, proposerOf(t, f.set, f.secrets, 1, r), 1, r, -1, hash(1)))
			stands(t, f.n, 2, -1)
			if l := f.n.Commits(); len(l) != 1 || !sameCommit(l[0], commitOf(t, f.set, voters, 1, r, hash(1))) {
				t.Errorf("Commits: %v", l)
			}
		}
	}
}

// TestDecideEarlier: a round that it has left decides too.
func TestDecideEarlier(t *testing.T) { // P14.1 (N3: Decide)
	f := newFour(t)
	start(t, f.n)
	toRound(t, f, 1, 7)
	hear(t, f.n, proposal(t, f.p0, 1, 0, -1, hash(1)), precommit(t, f.p0, 1, 0, hash(1)), precommit(t, f.p1, 1, 0, hash(1)))
	if f.n.Round() != 7 {
		t.Errorf("round %d", f.n.Round())
	}
	hear(t, f.n, precommit(t, f.p2, 1, 0, hash(1)))
	stands(t, f.n, 2, -1)
}

// keep tells a node of height 1 what it is to take in at height 2, all at once.
func keep(t *testing.T, f *four, l ...[]byte) {
	t.Helper()
	hear(t, f.n, l...)
	stands(t, f.n, 1, -1)
	if e := f.n.Catch(commitOf(t, f.set, f.secrets, 1, 0, hash(1))); e != api.OK {
		t.Fatalf("Catch: %d", e)
	}
}

// TestDecideLeast: of several rounds that decide the least one does, and ahead of all else.
func TestDecideLeast(t *testing.T) { // P14.1 (N3: Decide)
	for _, order := range [][]int{{1, 3, 6}, {6, 3, 1}, {3, 6, 1}, {3, 1, 6}} {
		f := newFour(t)
		var l [][]byte
		for _, r := range order {
			for _, s := range f.secrets[:3] {
				l = append(l, precommit(t, s, 2, r, hash(byte(r))))
			}
			l = append(l, proposal(t, proposerOf(t, f.set, f.secrets, 2, r), 2, r, -1, hash(byte(r))))
		}
		keep(t, f, l...)
		stands(t, f.n, 3, -1)
		says(t, f.n)
		if c := f.n.Commits(); c[1].Round != 1 || c[1].Block != hash(1) {
			t.Errorf("decided %v", c[1])
		}
	}
}

// TestDecideNeeds: a proposal of that round for that block, by any place among its proposals; and one winner of one round.
func TestDecideNeeds(t *testing.T) { // P14.1 (N3: Decide)
	f := newFour(t)
	three := [][]byte{precommit(t, f.p0, 1, 0, hash(9)), precommit(t, f.p1, 1, 0, hash(9)), precommit(t, f.p2, 1, 0, hash(9))}
	hear(t, f.n, proposal(t, f.p0, 1, 0, -1, hash(1)), proposal(t, f.p1, 1, 1, -1, hash(9)))
	hear(t, f.n, three...)
	if f.n.Height() != 1 {
		t.Fatal("decided a block that its round did not propose")
	}
	for i := range 40 { // the proposer says many things
		hear(t, f.n, proposal(t, f.p0, 1, 0, -1, hash(byte(100+i))))
	}
	if f.n.Height() != 1 {
		t.Fatal("decided a block that its round did not propose")
	}
	hear(t, f.n, proposal(t, f.p0, 1, 0, -1, hash(9)))
	stands(t, f.n, 2, -1)

	f = newFour(t) // two thirds are not more than two thirds; prevotes are no precommits; two rounds are not one
	hear(t, f.n, proposal(t, f.p0, 1, 0, -1, hash(9)), precommit(t, f.p0, 1, 0, hash(9)), precommit(t, f.p1, 1, 0, hash(9)))
	hear(t, f.n, prevote(t, f.p2, 1, 0, hash(9)), precommit(t, f.p2, 1, 1, hash(9)), precommit(t, f.p2, 1, 0, hash(8)), precommit(t, f.p2, 1, 0, hash(9)))
	if f.n.Height() != 1 {
		t.Error("decided without more than two thirds")
	}
}

// TestDecideNone: more than two thirds for no block are no decision.
func TestDecideNone(t *testing.T) { // P14.1 (N3: Decide)
	f := newFour(t)
	hear(t, f.n, proposal(t, f.p0, 1, 0, -1, hash(9)))
	for _, s := range others(f.secrets, f.me) {
		hear(t, f.n, precommit(t, s, 1, 0, api.Hash{}))
	}
	stands(t, f.n, 1, 0, waitPropose(0), waitPrecommit(0))
}

// TestLater: more than a third of the power, in one round above, each counted once, whatever was said.
func TestLater(t *testing.T) { // P14.1 (N3: Later)
	set, secrets := setOf(t, 2, 2, 2, 3) // a third is 3
	me := secrets[slices.IndexFunc(set, func(v api.Validator) bool { return v.Key == keyOf(t, 1) })]
	for _, r := range []int{0, 1, 7} {
		p := proposerOf(t, set, secrets, 1, r)
		said := func(secret uint64) [][]byte {
			l := [][]byte{prevote(t, secret, 1, r, hash(1)), prevote(t, secret, 1, r, hash(2)), precommit(t, secret, 1, r, hash(1)), precommit(t, secret, 1, r, api.Hash{})}
			if secret == p {
				l = append(l, proposal(t, p, 1, r, -1, hash(1)), proposal(t, p, 1, r, -1, hash(2)))
			}
			return l
		}
		for _, m := range said(2) { // one of 2, and then another one
			for _, other := range said(3) {
				n := fresh(t, me, set)
				hear(t, n, append(said(2), m)...)
				if n.Round() != -1 {
					t.Fatalf("round %d by 2 of 9", n.Round())
				}
				hear(t, n, other)
				if n.Round() != r {
					t.Errorf("round %d by 4 of 9; want %d", n.Round(), r)
				}
			}
		}
		n := fresh(t, me, set)
		hear(t, n, said(4)...) // just a third
		if n.Round() != -1 {
			t.Errorf("round %d by 3 of 9", n.Round())
		}
		for i, m := range said(2) { // two rounds are not one
			n := fresh(t, me, set)
			hear(t, n, m, prevote(t, 3, 1, r+1+i, hash(1)), precommit(t, 4, 1, r+20+i, hash(1)))
			if n.Round() != -1 {
				t.Errorf("round %d by several rounds", n.Round())
			}
		}
	}
}

// TestLaterProposal: a proposal is something that was said.
func TestLaterProposal(t *testing.T) { // P14.1 (N3: Later)
	f := newFour(t)
	p := proposerOf(t, f.set, f.secrets, 1, 5)
	other := others(f.secrets, f.me, p)[0]
	hear(t, f.n, proposal(t, p, 1, 5, 2, hash(1)))
	stands(t, f.n, 1, -1)
	hear(t, f.n, precommit(t, other, 1, 5, hash(1)))
	if f.n.Round() != 5 {
		t.Errorf("round %d", f.n.Round())
	}
}

// TestLaterGreatest: of several rounds the greatest one, at once.
func TestLaterGreatest(t *testing.T) { // P14.1 (N3: Later)
	for _, order := range [][]int{{2, 9, 30}, {30, 9, 2}, {9, 30, 2}} {
		f := newFour(t)
		var l [][]byte
		for _, r := range order {
			for _, s := range others(f.secrets, f.me)[:2] {
				l = append(l, precommit(t, s, 2, r, hash(byte(r))))
			}
		}
		l = append(l, precommit(t, f.p0, 2, 31, hash(1)), precommit(t, f.p0, 2, 0, hash(1)))
		keep(t, f, l...)
		if f.n.Height() != 2 || f.n.Round() != 30 || slices.ContainsFunc(f.n.Waits(), func(w node.Wait) bool { return w.Round != 30 }) {
			t.Errorf("at %d, %d, waits %v", f.n.Height(), f.n.Round(), f.n.Waits())
		}
	}
}

// TestLaterOwn: whom the round that it comes to has as proposer proposes there.
func TestLaterOwn(t *testing.T) { // P14.1 (N3: Next)
	f := newFour(t)
	r := 0
	for proposerOf(t, f.set, f.secrets, 1, r) != f.me {
		r++
	}
	hear(t, f.n, prevote(t, f.p0, 1, r, hash(1)), precommit(t, f.p1, 1, r, hash(1)))
	stands(t, f.n, 1, r)
	own := ownOf(t, f.me, 1)
	says(t, f.n, proposal(t, f.me, 1, r, -1, own), prevote(t, f.me, 1, r, own))
}

// TestLaterAhead: a later round comes ahead of a proposal of its own one.
func TestLaterAhead(t *testing.T) { // P14.1 (N3: Later, Propose)
	f := newFour(t)
	p := proposerOf(t, f.set, f.secrets, 2, 0)
	var l [][]byte
	l = append(l, proposal(t, p, 2, 0, -1, hash(1)))
	for _, s := range others(f.secrets, f.me)[:2] {
		l = append(l, prevote(t, s, 2, 0, hash(1)), prevote(t, s, 2, 4, hash(1)))
	}
	keep(t, f, l...)
	for _, m := range f.n.Out() {
		v := decodeVote(t, m)
		if v.Round == 0 {
			t.Errorf("said %+v in a round that was passed", v)
		}
	}
	if f.n.Round() != 4 {
		t.Errorf("round %d", f.n.Round())
	}
}

// TestFirstProposal: the first one of a round counts, another one only where votes are for it.
func TestFirstProposal(t *testing.T) { // P14.1 (N3: Propose, Agreed)
	f := newFour(t)
	hear(t, f.n, proposal(t, f.p0, 1, 0, -1, hash(1)), proposal(t, f.p0, 1, 0, -1, hash(2)), proposal(t, f.p0, 1, 0, -1, hash(1)))
	start(t, f.n)
	says(t, f.n, prevote(t, f.me, 1, 0, hash(1)))
	hear(t, f.n, prevote(t, f.p0, 1, 0, hash(2)), prevote(t, f.p1, 1, 0, hash(2)), prevote(t, f.p2, 1, 0, hash(2)))
	says(t, f.n, precommit(t, f.me, 1, 0, hash(2)))
}

// TestTooLate: a proposal that comes behind the prevote counts for no other prevote.
func TestTooLate(t *testing.T) { // P14.1 (N3: Propose)
	f := newFour(t)
	start(t, f.n)
	fire(t, f.n, 0)
	says(t, f.n, prevote(t, f.me, 1, 0, api.Hash{}))
	hear(t, f.n, proposal(t, f.p0, 1, 0, -1, hash(1)))
	says(t, f.n)
	hear(t, f.n, prevote(t, f.p0, 1, 0, hash(1)), prevote(t, f.p1, 1, 0, hash(1)), prevote(t, f.p2, 1, 0, hash(1)))
	says(t, f.n, precommit(t, f.me, 1, 0, hash(1))) // but it locks by it
}

// toRound brings a node to a round that others are in.
func toRound(t *testing.T, f *four, height, r int) {
	t.Helper()
	for _, s := range others(f.secrets, f.me)[:2] {
		hear(t, f.n, precommit(t, s, height, r, hash(200)))
	}
	if f.n.Height() != height || f.n.Round() != r {
		t.Fatalf("at %d, %d; want %d, %d", f.n.Height(), f.n.Round(), height, r)
	}
}

// TestAgain: a proposal that names a round waits for that round's prevotes.
func TestAgain(t *testing.T) { // P14.1 (N3: Again)
	f := newFour(t)
	toRound(t, f, 1, 2)
	hear(t, f.n, proposal(t, f.p2, 1, 2, 1, hash(1)))
	says(t, f.n)
	hear(t, f.n, prevote(t, f.p0, 1, 0, hash(1)), prevote(t, f.p1, 1, 0, hash(1)), prevote(t, f.p2, 1, 0, hash(1))) // of another round
	says(t, f.n)
	hear(t, f.n, prevote(t, f.p0, 1, 1, hash(1)), prevote(t, f.p1, 1, 1, hash(1)), precommit(t, f.p2, 1, 1, hash(1)))
	says(t, f.n)
	hear(t, f.n, proposal(t, f.p2, 1, 2, -1, hash(1)), proposal(t, f.p2, 1, 2, 0, hash(1))) // not the first ones
	says(t, f.n)
	hear(t, f.n, prevote(t, f.p2, 1, 1, hash(1)))
	says(t, f.n, prevote(t, f.me, 1, 2, hash(1)))

	f = newFour(t) // a winner, but another one
	toRound(t, f, 1, 2)
	for _, s := range others(f.secrets, f.me) {
		hear(t, f.n, prevote(t, s, 1, 1, hash(2)))
	}
	hear(t, f.n, proposal(t, f.p2, 1, 2, 1, hash(1)))
	says(t, f.n)
	for _, s := range others(f.secrets, f.me) {
		hear(t, f.n, prevote(t, s, 1, 0, api.Hash{}))
	}
	says(t, f.n)
}

// lock has a node precommit a block in round 0.
func lock(t *testing.T, f *four, block api.Hash) {
	t.Helper()
	start(t, f.n)
	hear(t, f.n, proposal(t, f.p0, 1, 0, -1, block), prevote(t, f.p0, 1, 0, block), prevote(t, f.p1, 1, 0, block))
	says(t, f.n, prevote(t, f.me, 1, 0, block), precommit(t, f.me, 1, 0, block))
}

// TestLock: who precommitted a block does not prevote for another one, but where more than two thirds did later; behind a loss of power too.
func TestLock(t *testing.T) { // P14.1 (N1: what is found again, N3), P14.2
	for _, power := range []bool{false, true} {
		f := newFour(t)
		again := func() {
			if power {
				f.power(t)
			}
		}
		lock(t, f, hash(1))
		again()
		toRound(t, f, 1, 1)
		hear(t, f.n, proposal(t, f.p1, 1, 1, -1, hash(2)))
		says(t, f.n, prevote(t, f.me, 1, 1, api.Hash{}))
		again()
		toRound(t, f, 1, 2)
		hear(t, f.n, proposal(t, f.p2, 1, 2, -1, hash(1)))
		says(t, f.n, prevote(t, f.me, 1, 2, hash(1)))
		again()
		p := proposerOf(t, f.set, f.secrets, 1, 6)
		toRound(t, f, 1, 6)
		for _, s := range others(f.secrets, f.me) { // more than two thirds, but it precommitted in a round that is no earlier one
			hear(t, f.n, prevote(t, s, 1, 3, hash(3)))
		}
		hear(t, f.n, proposal(t, p, 1, 6, 3, hash(3)))
		says(t, f.n, prevote(t, f.me, 1, 6, hash(3)))
		again()
		for _, s := range others(f.secrets, f.me) {
			hear(t, f.n, prevote(t, s, 1, 6, hash(3)))
		}
		if power { // the proposal is heard no more
			says(t, f.n)
			hear(t, f.n, proposal(t, p, 1, 6, 3, hash(3)))
		}
		says(t, f.n, precommit(t, f.me, 1, 6, hash(3)))
		again()
		toRound(t, f, 1, 8)
		for _, s := range others(f.secrets, f.me) {
			hear(t, f.n, prevote(t, s, 1, 5, hash(1)))
		}
		hear(t, f.n, proposal(t, proposerOf(t, f.set, f.secrets, 1, 8), 1, 8, 5, hash(1)))
		says(t, f.n, prevote(t, f.me, 1, 8, api.Hash{}))
	}
}

// TestOwnAgain: who proposes behind a lock proposes what is valid, and names its round.
func TestOwnAgain(t *testing.T) { // P14.1 (N1, N3: what is said)
	for _, power := range []bool{false, true} {
		f := newFour(t)
		lock(t, f, hash(1))
		if power {
			f.power(t)
		}
		r := 0
		for proposerOf(t, f.set, f.secrets, 1, r) != f.me {
			r++
		}
		toRound(t, f, 1, r)
		if power { // the prevotes of round 0 are heard no more
			says(t, f.n, proposal(t, f.me, 1, r, 0, hash(1)))
			hear(t, f.n, prevote(t, f.p0, 1, 0, hash(1)), prevote(t, f.p1, 1, 0, hash(1)), prevote(t, f.me, 1, 0, hash(1)))
			says(t, f.n, prevote(t, f.me, 1, r, hash(1)))
		} else {
			says(t, f.n, proposal(t, f.me, 1, r, 0, hash(1)), prevote(t, f.me, 1, r, hash(1)))
		}
	}
}

// TestValid: more than two thirds that come behind its precommit make a block valid, but do not lock it.
func TestValid(t *testing.T) { // P14.1 (N3: Agreed)
	f := newFour(t)
	start(t, f.n)
	fire(t, f.n, 0)
	hear(t, f.n, prevote(t, f.p0, 1, 0, hash(1)), prevote(t, f.p1, 1, 0, api.Hash{}))
	fire(t, f.n, 0)
	says(t, f.n, prevote(t, f.me, 1, 0, api.Hash{}), precommit(t, f.me, 1, 0, api.Hash{}))
	f = newFour(t)
	start(t, f.n)
	hear(t, f.n, proposal(t, f.p0, 1, 0, -1, hash(1)), prevote(t, f.p0, 1, 0, hash(1)), prevote(t, f.p1, 1, 0, api.Hash{}))
	fire(t, f.n, 1)
	says(t, f.n, prevote(t, f.me, 1, 0, hash(1)), precommit(t, f.me, 1, 0, api.Hash{}))
	hear(t, f.n, prevote(t, f.p2, 1, 0, hash(1)))
	says(t, f.n)
	toRound(t, f, 1, 1)
	hear(t, f.n, proposal(t, f.p1, 1, 1, -1, hash(2)))
	says(t, f.n, prevote(t, f.me, 1, 1, hash(2))) // it is not locked
	r := 2
	for proposerOf(t, f.set, f.secrets, 1, r) != f.me {
		r++
	}
	toRound(t, f, 1, r)
	says(t, f.n, proposal(t, f.me, 1, r, 0, hash(1)), prevote(t, f.me, 1, r, hash(1))) // but it is valid
}

// TestAgreedNeeds: a proposal of that round for the block that has the prevotes.
func TestAgreedNeeds(t *testing.T) { // P14.1 (N3: Agreed, Prevotes)
	f := newFour(t)
	start(t, f.n)
	hear(t, f.n, proposal(t, f.p0, 1, 0, -1, hash(1)), proposal(t, f.p1, 1, 1, -1, hash(2)))
	says(t, f.n, prevote(t, f.me, 1, 0, hash(1)))
	for _, s := range others(f.secrets, f.me) {
		hear(t, f.n, prevote(t, s, 1, 0, hash(2)))
	}
	says(t, f.n)
	stands(t, f.n, 1, 0, waitPropose(0), waitPrevote(0))
	hear(t, f.n, proposal(t, f.p0, 1, 0, -1, hash(2)))
	says(t, f.n, precommit(t, f.me, 1, 0, hash(2)))
}

// TestAgreedAhead: a block that has the prevotes is precommitted ahead of waiting for more of them, and so is none.
func TestAgreedAhead(t *testing.T) { // P14.1 (N3: Agreed, Nothing, Prevotes)
	f := newFour(t)
	start(t, f.n)
	for _, s := range others(f.secrets, f.me) {
		hear(t, f.n, prevote(t, s, 1, 0, hash(1)))
	}
	stands(t, f.n, 1, 0, waitPropose(0)) // in step 1 prevotes are not waited for
	hear(t, f.n, proposal(t, f.p0, 1, 0, -1, hash(1)))
	says(t, f.n, prevote(t, f.me, 1, 0, hash(1)), precommit(t, f.me, 1, 0, hash(1)))
	stands(t, f.n, 1, 0, waitPropose(0))
	f = newFour(t)
	start(t, f.n)
	for _, s := range others(f.secrets, f.me) {
		hear(t, f.n, prevote(t, s, 1, 0, api.Hash{}))
	}
	stands(t, f.n, 1, 0, waitPropose(0))
	fire(t, f.n, 0)
	says(t, f.n, prevote(t, f.me, 1, 0, api.Hash{}), precommit(t, f.me, 1, 0, api.Hash{}))
	stands(t, f.n, 1, 0)
}

// TestNothing: more than two thirds for none, no less, and none else.
func TestNothing(t *testing.T) { // P14.1 (N3: Nothing)
	f := newFour(t)
	start(t, f.n)
	fire(t, f.n, 0)
	f.n.Out()
	hear(t, f.n, prevote(t, f.p0, 1, 0, api.Hash{}))
	says(t, f.n)
	hear(t, f.n, prevote(t, f.p1, 1, 0, hash(1)))
	says(t, f.n)
	stands(t, f.n, 1, 0, waitPrevote(0))
	hear(t, f.n, prevote(t, f.p2, 1, 0, api.Hash{}))
	says(t, f.n, precommit(t, f.me, 1, 0, api.Hash{}))
}

// TestPrecommits: more than two thirds of precommits for whatever are waited for in steps 1 to 3, once.
func TestPrecommits(t *testing.T) { // P14.1 (N3: Precommits)
	for step := 1; step <= 3; step++ {
		f := newFour(t)
		start(t, f.n)
		want := []node.Wait{waitPropose(0)}
		if step >= 2 {
			hear(t, f.n, proposal(t, f.p0, 1, 0, -1, hash(1)))
		}
		if step == 3 {
			hear(t, f.n, prevote(t, f.p0, 1, 0, hash(1)), prevote(t, f.p1, 1, 0, hash(1)))
		}
		f.n.Out()
		hear(t, f.n, precommit(t, f.p0, 1, 0, hash(3)), precommit(t, f.p1, 1, 0, hash(2)))
		if step < 3 {
			stands(t, f.n, 1, 0, want...)
			hear(t, f.n, precommit(t, f.p2, 1, 0, api.Hash{}))
		}
		stands(t, f.n, 1, 0, append(want, waitPrecommit(0))...)
		hear(t, f.n, precommit(t, f.p2, 1, 0, api.Hash{}), precommit(t, f.p1, 1, 0, hash(3)))
		stands(t, f.n, 1, 0, append(want, waitPrecommit(0))...)
		says(t, f.n)
	}
}

// TestTwice: of two votes of one key in one place the first one counts.
func TestTwice(t *testing.T) { // P14.1, P14.2
	f := newFour(t)
	start(t, f.n)
	hear(t, f.n, proposal(t, f.p0, 1, 0, -1, hash(1)), prevote(t, f.p0, 1, 0, hash(2)), prevote(t, f.p0, 1, 0, hash(1)), prevote(t, f.p1, 1, 0, hash(1)))
	says(t, f.n, prevote(t, f.me, 1, 0, hash(1)))
	hear(t, f.n, prevote(t, f.p1, 1, 0, hash(1)), prevote(t, f.p1, 1, 0, hash(1)))
	says(t, f.n)
	hear(t, f.n, prevote(t, f.p2, 1, 0, hash(1)))
	says(t, f.n, precommit(t, f.me, 1, 0, hash(1)))
}

func TestCatch(t *testing.T) { // P14.1 (N2: Catch), P14.3, rules 3 and 4
	f := newFour(t)
	good := commitOf(t, f.set, f.secrets[1:], 1, 4, hash(1))
	foreign, forged, none := commitOf(t, f.set, f.secrets, 1, 4, hash(1)), commitOf(t, f.set, f.secrets, 1, 4, hash(1)), commitOf(t, f.set, f.secrets, 1, 4, api.Hash{})
	for i, who := range foreign.Seals {
		v, _ := tally.Sign(f.secrets[i], api.Vote{Chain: "b", Height: 1, Round: 4, Type: api.Precommit, Block: hash(1)})
		foreign.Seals[i] = api.Seal{Key: who.Key, Sig: v.Sig}
	}
	forged.Seals[0].Sig.R ^= 2
	turned := commitOf(t, f.set, f.secrets, 1, 4, hash(1))
	slices.Reverse(turned.Seals)
	elsewhere := commitOf(t, f.set, f.secrets, 1, 4, hash(1))
	elsewhere.Round = 5
	wrong := []api.Commit{
		{}, {Height: 1}, foreign, forged, none, turned, elsewhere,
		commitOf(t, f.set, f.secrets, 2, 0, hash(1)), commitOf(t, f.set, f.secrets[:2], 1, 0, hash(1)),
		commitOf(t, f.set, append(slices.Clone(f.secrets), 99), 1, 0, hash(1)),
	}
	for _, h := range []int{0, -1, math.MinInt, math.MaxInt} {
		c := good
		c.Height = h
		wrong = append(wrong, c)
	}
	for _, started := range []bool{false, true} {
		if started {
			start(t, f.n)
		}
		before, b := tell(f.n), f.blocks.Read()
		for _, c := range wrong {
			if e := f.n.Catch(c); e != api.ErrCommit || !before.same(tell(f.n)) || !bytes.Equal(f.blocks.Read(), b) {
				t.Errorf("Catch of %+v: %d", c, e)
			}
		}
	}
	handed := commitOf(t, f.set, f.secrets[1:], 1, 4, hash(1))
	if e := f.n.Catch(handed); e != api.OK {
		t.Fatalf("Catch: %d", e)
	}
	if !sameCommit(handed, good) {
		t.Error("Catch has written into what was handed in")
	}
	handed.Seals[0] = api.Seal{}
	stands(t, f.n, 2, -1)
	says(t, f.n)
	if l := f.n.Commits(); len(l) != 1 || !sameCommit(l[0], good) {
		t.Errorf("Commits: %v", l)
	}
	if e := f.n.Catch(good); e != api.ErrCommit {
		t.Errorf("Catch once more: %d", e)
	}
	f.power(t)
	stands(t, f.n, 2, -1)
	if l := f.n.Commits(); len(l) != 1 || !sameCommit(l[0], good) {
		t.Errorf("Commits behind power: %v", l)
	}
}

// TestFound: what votes tell of a height.
func TestFound(t *testing.T) { // P14.1 (N1: what is found again)
	f := newFour(t)
	votesOf := func(l ...api.Vote) *tape.Tape {
		var records [][]byte
		for _, v := range l {
			records = append(records, bytesOf(t, v))
		}
		return tapeOf(t, records...)
	}
	vote := func(height, round int, kind api.VoteType, block api.Hash) api.Vote {
		return voteOf(t, f.me, height, round, kind, block)
	}
	one := commitBytes(t, commitOf(t, f.set, f.secrets, 1, 0, hash(1)))
	none := api.Hash{}
	for _, c := range []struct {
		votes  []api.Vote
		height int
		round  int
	}{
		{nil, 1, -1},
		{[]api.Vote{vote(2, 3, api.Prevote, hash(1))}, 1, -1},
		{[]api.Vote{vote(1, 3, api.Precommit, hash(1))}, 2, -1},
		{[]api.Vote{vote(1, 3, api.Prevote, hash(1))}, 1, 3},
		{[]api.Vote{vote(1, 3, api.Prevote, hash(1)), vote(1, 4, api.Precommit, none)}, 1, 4},
		{[]api.Vote{vote(1, 3, api.Prevote, hash(1)), vote(1, 3, api.Precommit, none), vote(2, 0, api.Prevote, none)}, 1, 3},
		{[]api.Vote{vote(1, 9, api.Prevote, hash(1)), vote(2, 0, api.Prevote, none), vote(2, 5, api.Prevote, none)}, 2, 5},
		{[]api.Vote{vote(1, api.MaxRound, api.Precommit, none)}, 1, api.MaxRound},
	} {
		blocks := tapeOf(t)
		if c.height == 2 {
			blocks = tapeOf(t, one)
		}
		n := open(t, votesOf(c.votes...), blocks, f.me, f.set)
		stands(t, n, c.height, c.round)
		says(t, n)
		if c.round >= 0 { // a round has begun
			start(t, n)
			stands(t, n, c.height, c.round)
			says(t, n)
		}
	}
}

// TestFoundStep: behind a prevote it precommits, but prevotes no more; behind a precommit it does neither.
func TestFoundStep(t *testing.T) { // P14.1 (N1: what is found again), P13.2
	f := newFour(t)
	start(t, f.n)
	hear(t, f.n, proposal(t, f.p0, 1, 0, -1, hash(1)))
	says(t, f.n, prevote(t, f.me, 1, 0, hash(1)))
	f.power(t)
	stands(t, f.n, 1, 0)
	hear(t, f.n, proposal(t, f.p0, 1, 0, -1, hash(2)))
	says(t, f.n)
	hear(t, f.n, prevote(t, f.p0, 1, 0, hash(2)), prevote(t, f.p1, 1, 0, hash(2)))
	stands(t, f.n, 1, 0) // its own prevote is not heard again by itself
	hear(t, f.n, prevote(t, f.p2, 1, 0, hash(3)))
	stands(t, f.n, 1, 0, waitPrevote(0))
	f.power(t)
	stands(t, f.n, 1, 0)
	hear(t, f.n, proposal(t, f.p0, 1, 0, -1, hash(2)))
	for _, s := range others(f.secrets, f.me) {
		hear(t, f.n, prevote(t, s, 1, 0, hash(2)))
	}
	says(t, f.n, precommit(t, f.me, 1, 0, hash(2)))
	f.power(t)
	stands(t, f.n, 1, 0)
	hear(t, f.n, proposal(t, f.p0, 1, 0, -1, hash(1)))
	for _, s := range others(f.secrets, f.me) {
		hear(t, f.n, prevote(t, s, 1, 0, hash(1)))
	}
	says(t, f.n)
	stands(t, f.n, 1, 0)
	hear(t, f.n, precommit(t, f.p0, 1, 0, hash(1)), precommit(t, f.p1, 1, 0, hash(2)), precommit(t, f.p2, 1, 0, hash(2)))
	stands(t, f.n, 1, 0, waitPrecommit(0))
	hear(t, f.n, proposal(t, f.p0, 1, 0, -1, hash(2)), precommit(t, f.me, 1, 0, hash(2)))
	stands(t, f.n, 2, -1)
}

// TestFoundOwn: its own vote, heard from others, counts like theirs.
func TestFoundOwn(t *testing.T) { // P14.1 (N1: what was heard is gone)
	f := newFour(t)
	start(t, f.n)
	hear(t, f.n, proposal(t, f.p0, 1, 0, -1, hash(1)))
	f.power(t)
	hear(t, f.n, proposal(t, f.p0, 1, 0, -1, hash(1)), prevote(t, f.p0, 1, 0, hash(1)), prevote(t, f.p1, 1, 0, hash(1)))
	says(t, f.n)
	hear(t, f.n, prevote(t, f.me, 1, 0, hash(1)))
	says(t, f.n, precommit(t, f.me, 1, 0, hash(1)))
}

// TestRefused: what the signer refuses is not said, and does not count; the node goes on.
func TestRefused(t *testing.T) { // P14.1 (N3: votes by the signer), P13.2
	f := newFour(t)
	for _, votes := range []*tape.Tape{
		tapeOf(t, []byte("no vote's")), // so it signs no vote
		tapeOf(t, prevote(t, f.me, 9, 0, hash(1))),
	} {
		b := votes.Read()
		n := open(t, votes, tape.New(), f.me, f.set)
		start(t, n)
		stands(t, n, 1, 0, waitPropose(0))
		hear(t, n, proposal(t, f.p0, 1, 0, -1, hash(1)), prevote(t, f.p0, 1, 0, hash(1)), prevote(t, f.p1, 1, 0, hash(1)))
		says(t, n)
		stands(t, n, 1, 0, waitPropose(0)) // two prevotes of four
		hear(t, n, prevote(t, f.p2, 1, 0, hash(1)), precommit(t, f.p0, 1, 0, hash(1)), precommit(t, f.p1, 1, 0, hash(1)))
		stands(t, n, 1, 0, waitPropose(0))
		hear(t, n, precommit(t, f.p2, 1, 0, hash(1)))
		stands(t, n, 2, -1)
		says(t, n)
		if !bytes.Equal(votes.Read(), b) {
			t.Error("the tape of votes has changed")
		}
	}
}

// TestTwoOnOneTape: two nodes that are open on one tape of votes say no two unlike ones either.
func TestTwoOnOneTape(t *testing.T) { // P13.2
	f := newFour(t)
	second := open(t, f.votes, tape.New(), f.me, f.set)
	for _, n := range []*node.Node{f.n, second} {
		start(t, n)
	}
	hear(t, f.n, proposal(t, f.p0, 1, 0, -1, hash(1)))
	says(t, f.n, prevote(t, f.me, 1, 0, hash(1)))
	hear(t, second, proposal(t, f.p0, 1, 0, -1, hash(2)))
	says(t, second)
	for _, s := range others(f.secrets, f.me) {
		hear(t, second, prevote(t, s, 1, 0, hash(2)))
	}
	says(t, second, precommit(t, f.me, 1, 0, hash(2)))
	hear(t, f.n, prevote(t, f.p0, 1, 0, hash(1)), prevote(t, f.p1, 1, 0, hash(1)))
	says(t, f.n)
}

// TestFullVotes: a tape that is full refuses votes, but not proposals.
func TestFullVotes(t *testing.T) { // P14.1 (N3: votes by the signer), P1
	set, secrets := setOf(t, 1)
	votes := tape.New()
	n := open(t, votes, tape.New(), secrets[0], set)
	for room := api.MaxTape; room > 150; room = api.MaxTape - len(votes.Read()) { // put there behind its back: bytes that are no vote's
		l, e := wal.Open(votes)
		if e != api.OK {
			t.Fatalf("wal.Open: %d", e)
		}
		l.Append(make([]byte, min(api.MaxText, room-106)))
	}
	start(t, n)
	stands(t, n, 1, 0)
	says(t, n, proposal(t, secrets[0], 1, 0, -1, ownOf(t, secrets[0], 1)))
}

// TestFullBlocks: a commit that can't be kept is none, whoever's it is; no call goes on for ever.
func TestFullBlocks(t *testing.T) { // P14.1, P14.3, P1, rule 3
	f := newFour(t)
	blocks := tape.New()
	l, _ := wal.Open(blocks)
	for l.Append(make([]byte, api.MaxText)) == api.OK {
	}
	for l.Append(make([]byte, 50)) == api.OK {
	}
	l.Sync()
	b := blocks.Read()
	n := open(t, f.votes, blocks, f.me, f.set)
	c := commitOf(t, f.set, f.secrets, 1, 0, hash(1))
	start(t, n)
	before := tell(n)
	if e := n.Catch(c); e != api.ErrTapeFull || !before.same(tell(n)) {
		t.Errorf("Catch: %d, %+v", e, tell(n))
	}
	hear(t, n, proposal(t, f.p0, 1, 0, -1, hash(1)))
	for _, s := range others(f.secrets, f.me) {
		hear(t, n, prevote(t, s, 1, 0, hash(1)))
	}
	says(t, n, prevote(t, f.me, 1, 0, hash(1)), precommit(t, f.me, 1, 0, hash(1)))
	for _, s := range f.secrets {
		hear(t, n, precommit(t, s, 1, 0, hash(1)))
	}
	stands(t, n, 1, 0, n.Waits()...)
	start(t, n)
	for len(n.Waits()) > 0 {
		fire(t, n, 0)
	}
	toLater := others(f.secrets, f.me)
	hear(t, n, prevote(t, toLater[0], 1, 3, hash(1)), prevote(t, toLater[1], 1, 3, hash(1)))
	says(t, n)
	if n.Height() != 1 || len(n.Commits()) != 0 || !bytes.Equal(blocks.Read(), b) {
		t.Errorf("height %d, %d commits", n.Height(), len(n.Commits()))
	}
}

// TestNil: no node, and one that no call gave.
func TestNil(t *testing.T) { // P1, rule 8
	f := newFour(t)
	c := commitOf(t, f.set, f.secrets, 1, 0, hash(1))
	var n *node.Node
	if n.Start() != api.ErrArg || n.Hear(nil) != api.ErrArg || n.Hear(prevote(t, f.p0, 1, 0, hash(1))) != api.ErrArg || n.Fire(0) != api.ErrArg || n.Catch(c) != api.ErrArg || n.Catch(api.Commit{}) != api.ErrArg {
		t.Error("a call of a nil node")
	}
	if len(n.Waits()) != 0 || len(n.Out()) != 0 || n.Height() != 0 || n.Round() != 0 || len(n.Commits()) != 0 {
		t.Error("a nil node has something")
	}
	n = &node.Node{}
	for range 2 {
		n.Start()
		n.Hear(prevote(t, f.p0, 1, 0, hash(1)))
		n.Hear(proposal(t, f.p0, 1, 0, -1, hash(1)))
		n.Fire(0)
		n.Catch(c)
		n.Waits()
		n.Out()
		n.Height()
		n.Round()
		n.Commits()
	}
}

// TestOneTape: both logs on one tape are no good, but nothing panics, and no two votes are unlike.
func TestOneTape(t *testing.T) { // P1, P13.2
	set, secrets := setOf(t, 1)
	x := tape.New()
	for range 3 {
		n := open(t, x, x, secrets[0], set)
		for range 3 {
			start(t, n)
			n.Catch(commitOf(t, set, secrets, n.Height(), 0, hash(1)))
		}
		voted := map[place]api.Hash{}
		for _, m := range n.Out() {
			if v, is := voteIn(m); is {
				at := place{v.Key, v.Height, v.Round, v.Type}
				if block, twice := voted[at]; twice && block != v.Block {
					t.Errorf("two votes at %+v", at)
				}
				voted[at] = v.Block
			}
		}
	}
}

// TestOwnMemory: what was handed in and what was answered may be written into.
func TestOwnMemory(t *testing.T) { // rule 4
	f := newFour(t)
	set := slices.Clone(f.set)
	n := open(t, f.votes, f.blocks, f.me, set)
	clear(set)
	start(t, n)
	m := proposal(t, f.p0, 1, 0, -1, hash(1))
	long := append(slices.Clone(m), 1, 2, 3)
	hear(t, n, long[:len(m)])
	if !bytes.Equal(long[:len(m)], m) || !bytes.Equal(long[len(m):], []byte{1, 2, 3}) {
		t.Error("Hear has written into what was handed in")
	}
	clear(long)
	n.Waits()[0] = node.Wait{}
	stands(t, n, 1, 0, waitPropose(0))
	hear(t, n, prevote(t, f.p0, 1, 0, hash(1)), prevote(t, f.p1, 1, 0, hash(1)))
	out := n.Out()
	want := [][]byte{prevote(t, f.me, 1, 0, hash(1)), precommit(t, f.me, 1, 0, hash(1))}
	if !slices.EqualFunc(out, want, bytes.Equal) {
		t.Fatalf("Out: %x", out)
	}
	for _, b := range out {
		clear(b[:cap(b)])
	}
	hear(t, n, precommit(t, f.p0, 1, 0, hash(1)), precommit(t, f.p1, 1, 0, hash(1)))
	good := commitOf(t, f.set, []uint64{f.me, f.p0, f.p1}, 1, 0, hash(1))
	for range 2 {
		l := n.Commits()
		if len(l) != 1 || !sameCommit(l[0], good) {
			t.Fatalf("Commits: %v", l)
		}
		clear(l[0].Seals)
		clear(l)
	}
	f.power(t)
	if l := f.n.Commits(); len(l) != 1 || !sameCommit(l[0], good) {
		t.Errorf("Commits behind power: %v", l)
	}
}

func decodeVote(t *testing.T, b []byte) api.Vote {
	t.Helper()
	v, is := voteIn(b)
	if !is {
		t.Fatalf("no vote: %x", b)
	}
	return v
}
