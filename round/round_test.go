package round_test

import (
	"math"
	"math/rand/v2"
	"slices"
	"testing"

	"nuncio/api"
	"nuncio/round"
)

// The steps, by the document's numbers.
const (
	fresh = iota
	proposing
	prevoting
	precommitting
	decided
)

var (
	none api.Hash
	a    = api.Hash{1}
	b    = api.Hash{31: 1} // unlike a and the empty one at its ends only
	c    = api.Hash{3}
)

// a change to a state, so that cases tell only what is unlike New's.
type change func(s *round.State)

func at(r, step int) change { return func(s *round.State) { s.Round, s.Step = r, step } }

func locked(block api.Hash, r int) change {
	return func(s *round.State) { s.Locked, s.LockedRound = block, r }
}

func valid(block api.Hash, r int) change {
	return func(s *round.State) { s.Valid, s.ValidRound = block, r }
}

func waits(r int) change { return func(s *round.State) { s.Waits = r } }

func waited(r int) change { return func(s *round.State) { s.Waited = r } }

func done(block api.Hash) change {
	return func(s *round.State) { s.Block, s.Step = block, decided }
}

func state(changes ...change) round.State {
	s := round.State{Round: -1, LockedRound: -1, ValidRound: -1, Waits: -1, Waited: -1}
	for _, f := range changes {
		f(&s)
	}
	return s
}

func and(s round.State, changes ...change) round.State {
	for _, f := range changes {
		f(&s)
	}
	return s
}

// does tells whether an input makes just this state and says just this.
func does(t *testing.T, name string, s round.State, in round.Input, want round.State, said ...round.Output) {
	t.Helper()
	got, out := round.Step(s, in)
	if got != want || !slices.Equal(out, said) {
		t.Errorf("%s: %+v behind %+v: %+v, %+v; want %+v, %+v", name, in, s, got, out, want, said)
	}
}

func stays(t *testing.T, name string, s round.State, in round.Input) {
	t.Helper()
	does(t, name, s, in, s)
}

// P12.1: the numbers of kinds.
func TestNumbers(t *testing.T) {
	inputs := []int{round.Begin, round.Propose, round.Again, round.Prevotes, round.Agreed, round.Nothing, round.Precommits, round.Decide, round.Later, round.LatePropose, round.LatePrevote, round.LatePrecommit}
	if !slices.Equal(inputs, []int{1, 2, 3, 4, 5, 6, 7, 8, 9, 10, 11, 12}) {
		t.Errorf("inputs: %v", inputs)
	}
	outputs := []int{round.Proposal, round.SayPrevote, round.SayPrecommit, round.WaitPropose, round.WaitPrevote, round.WaitPrecommit, round.Next, round.Decided}
	if !slices.Equal(outputs, []int{1, 2, 3, 4, 5, 6, 7, 8}) {
		t.Errorf("outputs: %v", outputs)
	}
}

// P12.1: New.
func TestNew(t *testing.T) {
	want := round.State{Round: -1, Step: 0, LockedRound: -1, ValidRound: -1, Waits: -1, Waited: -1}
	if got := round.New(); got != want {
		t.Errorf("%+v", got)
	}
}

// P12.1: Begin.
func TestBegin(t *testing.T) {
	in := round.Input{Kind: round.Begin}
	wait := round.Output{Kind: round.WaitPropose}
	does(t, "first round", state(), in, state(at(0, proposing)), wait)
	in.Round, wait.Round = 7, 7
	for step := fresh; step <= precommitting; step++ {
		full := []change{locked(a, 1), valid(b, 2), waits(2), waited(1)}
		does(t, "rounds are left out", state(append(full, at(2, step))...), in, state(append(full, at(7, proposing))...), wait)
		stays(t, "this round", state(at(7, step)), in)
		stays(t, "an earlier round", state(at(8, step)), in)
	}
	stays(t, "decided", state(at(2, 0), done(a)), in)

	in.Own = c
	does(t, "who proposes", state(), in, state(at(7, proposing)), round.Output{Kind: round.Proposal, Round: 7, Block: c, Valid: -1})
	does(t, "what is valid goes ahead", state(at(2, precommitting), valid(b, 2)), in, state(at(7, proposing), valid(b, 2)), round.Output{Kind: round.Proposal, Round: 7, Block: b, Valid: 2})
	does(t, "valid in round 0", state(at(0, precommitting), valid(b, 0)), in, state(at(7, proposing), valid(b, 0)), round.Output{Kind: round.Proposal, Round: 7, Block: b, Valid: 0})
	does(t, "locked alone is not proposed", state(at(2, precommitting), locked(a, 1)), in, state(at(7, proposing), locked(a, 1)), round.Output{Kind: round.Proposal, Round: 7, Block: c, Valid: -1})
	in.Round = api.MaxRound
	does(t, "the last round", state(), in, state(at(api.MaxRound, proposing)), round.Output{Kind: round.Proposal, Round: api.MaxRound, Block: c, Valid: -1})
	in = round.Input{Kind: round.Begin, Round: 1, Block: a, Valid: 5, Good: true}
	does(t, "other fields count for nothing", state(), in, state(at(1, proposing)), round.Output{Kind: round.WaitPropose, Round: 1})
}

// P12.1: Propose.
func TestPropose(t *testing.T) {
	in := round.Input{Kind: round.Propose, Round: 4, Block: a, Good: true}
	forA, forNone := round.Output{Kind: round.SayPrevote, Round: 4, Block: a}, round.Output{Kind: round.SayPrevote, Round: 4}
	s := state(at(4, proposing))
	after := state(at(4, prevoting))
	does(t, "nothing is locked", s, in, after, forA)
	does(t, "it is locked", and(s, locked(a, 2)), in, and(after, locked(a, 2)), forA)
	does(t, "another one is locked", and(s, locked(b, 2)), in, and(after, locked(b, 2)), forNone)
	does(t, "another one is locked in round 0", and(s, locked(b, 0)), in, and(after, locked(b, 0)), forNone)
	does(t, "another one is valid alone", and(s, valid(b, 2)), in, and(after, valid(b, 2)), forA)
	does(t, "a valid one is locked not", and(s, locked(b, 1), valid(a, 2)), in, and(after, locked(b, 1), valid(a, 2)), forNone)

	in.Valid = 3 // counts for nothing here
	does(t, "it names no round", and(s, locked(b, 2)), in, and(after, locked(b, 2)), forNone)
	in.Good = false
	does(t, "not good", s, in, after, forNone)
	does(t, "not good, and locked", and(s, locked(a, 2)), in, and(after, locked(a, 2)), forNone)
	in.Good, in.Block = true, none
	does(t, "no block", s, in, after, forNone)
	elsewhere(t, in, 4, proposing)
}

// elsewhere tells that an input of a round does nothing but at that round and these steps.
func elsewhere(t *testing.T, in round.Input, r int, steps ...int) {
	t.Helper()
	for step := fresh - 1; step <= decided+1; step++ {
		if !slices.Contains(steps, step) {
			stays(t, "another step", state(at(r, step)), in)
		}
		stays(t, "a later round", state(at(r-1, step)), in)
		stays(t, "an earlier round", state(at(r+1, step)), in)
	}
}

// P12.1: Again.
func TestAgain(t *testing.T) {
	in := round.Input{Kind: round.Again, Round: 4, Valid: 2, Block: a, Good: true}
	forA, forNone := round.Output{Kind: round.SayPrevote, Round: 4, Block: a}, round.Output{Kind: round.SayPrevote, Round: 4}
	s := state(at(4, proposing))
	after := state(at(4, prevoting))
	does(t, "nothing is locked", s, in, after, forA)
	for r, said := range []round.Output{forA, forA, forA, forNone} {
		does(t, "another one is locked", and(s, locked(b, r)), in, and(after, locked(b, r)), said)
		does(t, "it is locked", and(s, locked(a, r)), in, and(after, locked(a, r)), forA)
	}
	elsewhere(t, in, 4, proposing)

	for _, v := range []int{0, 3} {
		in.Valid = v
		does(t, "a round that may be named", s, in, after, forA)
	}
	for _, v := range []int{-1, 4, 5, math.MinInt, math.MaxInt} {
		in.Valid = v
		stays(t, "a round that may not be named", s, in)
		stays(t, "a round that may not be named, and locked", and(s, locked(a, 2)), in)
	}
	stays(t, "round 0 can't name one", state(at(0, proposing)), round.Input{Kind: round.Again, Block: a, Good: true})

	in.Valid, in.Good = 2, false
	does(t, "not good", s, in, after, forNone)
	does(t, "not good, and locked", and(s, locked(a, 2)), in, and(after, locked(a, 2)), forNone)
	in.Good, in.Block = true, none
	does(t, "no block", s, in, after, forNone)
}

// P12.1: Prevotes.
func TestPrevotes(t *testing.T) {
	in := round.Input{Kind: round.Prevotes, Round: 4, Block: a, Valid: 2}
	wait := round.Output{Kind: round.WaitPrevote, Round: 4}
	s := state(at(4, prevoting), locked(a, 1), valid(b, 2), waited(5))
	for _, r := range []int{-1, 0, 3} {
		does(t, "not waited for yet", and(s, waits(r)), in, and(s, waits(4)), wait)
	}
	stays(t, "waited for", and(s, waits(4)), in)
	stays(t, "a later one waited for", and(s, waits(5)), in)
	elsewhere(t, in, 4, prevoting)
}

// P12.1: Agreed.
func TestAgreed(t *testing.T) {
	in := round.Input{Kind: round.Agreed, Round: 4, Block: a, Good: true}
	say := round.Output{Kind: round.SayPrecommit, Round: 4, Block: a}
	all := []change{locked(a, 4), valid(a, 4)}
	does(t, "ahead of its precommit", state(at(4, prevoting)), in, state(append(all, at(4, precommitting))...), say)
	does(t, "another lock", state(at(4, prevoting), locked(b, 2), valid(b, 3), waits(4)), in, state(append(all, at(4, precommitting), waits(4))...), say)
	does(t, "behind its precommit", state(at(4, precommitting)), in, state(at(4, precommitting), valid(a, 4)))
	does(t, "the lock stays", state(at(4, precommitting), locked(b, 2), valid(b, 3)), in, state(at(4, precommitting), locked(b, 2), valid(a, 4)))
	for _, step := range []int{prevoting, precommitting} {
		stays(t, "already valid", state(at(4, step), valid(a, 4)), in)
		stays(t, "another one already valid", state(at(4, step), valid(b, 4)), in)
		stays(t, "a later one valid", state(at(4, step), valid(b, 5)), in)
		in.Good = false
		stays(t, "not good", state(at(4, step)), in)
		in.Good, in.Block = true, none
		stays(t, "no block", state(at(4, step)), in)
		in.Block = a
	}
	elsewhere(t, in, 4, prevoting, precommitting)
	does(t, "round 0", state(at(0, prevoting)), round.Input{Kind: round.Agreed, Block: b, Good: true}, state(at(0, precommitting), locked(b, 0), valid(b, 0)), round.Output{Kind: round.SayPrecommit, Block: b})
}

// P12.1: Nothing, and LatePrevote, which does the same.
func TestPrecommitForNone(t *testing.T) {
	for _, kind := range []int{round.Nothing, round.LatePrevote} {
		for _, block := range []api.Hash{none, a} {
			in := round.Input{Kind: kind, Round: 4, Block: block, Good: true, Valid: 1}
			rest := []change{locked(a, 1), valid(b, 2), waits(4), waited(4)}
			does(t, "for none", state(append(rest, at(4, prevoting))...), in, state(append(rest, at(4, precommitting))...), round.Output{Kind: round.SayPrecommit, Round: 4})
			elsewhere(t, in, 4, prevoting)
		}
	}
}

// P12.1: Precommits.
func TestPrecommits(t *testing.T) {
	in := round.Input{Kind: round.Precommits, Round: 4, Block: a, Valid: 2}
	wait := round.Output{Kind: round.WaitPrecommit, Round: 4}
	for step := proposing; step <= precommitting; step++ {
		s := state(at(4, step), locked(a, 1), valid(b, 2), waits(5))
		for _, r := range []int{-1, 0, 3} {
			does(t, "not waited for yet", and(s, waited(r)), in, and(s, waited(4)), wait)
		}
		stays(t, "waited for", and(s, waited(4)), in)
		stays(t, "a later one waited for", and(s, waited(5)), in)
	}
	elsewhere(t, in, 4, proposing, prevoting, precommitting)
}

// P12.1: Decide.
func TestDecide(t *testing.T) {
	rest := []change{locked(b, 1), valid(b, 2), waits(4), waited(3)}
	for step := fresh; step <= precommitting; step++ {
		for _, r := range []int{0, 3, 4, 5, api.MaxRound} { // earlier ones, its own, later ones
			in := round.Input{Kind: round.Decide, Round: r, Block: a, Good: true, Valid: 1}
			does(t, "decided", state(append(rest, at(4, step))...), in, state(append(rest, at(4, step), done(a))...), round.Output{Kind: round.Decided, Round: r, Block: a})
			in.Good = false
			stays(t, "not good", state(at(4, step)), in)
			in.Good, in.Block = true, none
			stays(t, "no block", state(at(4, step)), in)
		}
	}
	stays(t, "decided already", state(at(4, 0), done(a)), round.Input{Kind: round.Decide, Round: 4, Block: b, Good: true})
	does(t, "ahead of all", round.New(), round.Input{Kind: round.Decide, Block: b, Good: true}, and(round.New(), done(b)), round.Output{Kind: round.Decided, Block: b})
}

// P12.1: Later.
func TestLater(t *testing.T) {
	for step := fresh; step <= precommitting; step++ {
		s := state(at(4, step), locked(a, 1), valid(b, 2))
		for _, r := range []int{5, 9, api.MaxRound} {
			in := round.Input{Kind: round.Later, Round: r, Block: a, Good: true, Own: b, Valid: 3}
			does(t, "above", s, in, s, round.Output{Kind: round.Next, Round: r})
			stays(t, "decided", and(s, done(a)), in)
		}
		for r := range 5 {
			stays(t, "not above", s, round.Input{Kind: round.Later, Round: r})
		}
	}
	does(t, "ahead of all", round.New(), round.Input{Kind: round.Later}, round.New(), round.Output{Kind: round.Next})
}

// P12.1: LatePropose.
func TestLatePropose(t *testing.T) {
	rest := []change{locked(a, 1), valid(b, 2), waits(3), waited(4)}
	for _, block := range []api.Hash{none, a} {
		in := round.Input{Kind: round.LatePropose, Round: 4, Block: block, Good: true, Valid: 1}
		does(t, "for none", state(append(rest, at(4, proposing))...), in, state(append(rest, at(4, prevoting))...), round.Output{Kind: round.SayPrevote, Round: 4})
		elsewhere(t, in, 4, proposing)
	}
}

// P12.1: LatePrecommit.
func TestLatePrecommit(t *testing.T) {
	in := round.Input{Kind: round.LatePrecommit, Round: 4, Block: a, Good: true, Valid: 1}
	for step := proposing; step <= precommitting; step++ {
		s := state(at(4, step), locked(a, 1), valid(b, 2), waits(4), waited(4))
		does(t, "the next round", s, in, s, round.Output{Kind: round.Next, Round: 5})
		last := state(at(api.MaxRound-1, step))
		does(t, "the last round is next", last, round.Input{Kind: round.LatePrecommit, Round: api.MaxRound - 1}, last, round.Output{Kind: round.Next, Round: api.MaxRound})
		stays(t, "the last round", state(at(api.MaxRound, step)), round.Input{Kind: round.LatePrecommit, Round: api.MaxRound})
	}
	elsewhere(t, in, 4, proposing, prevoting, precommitting)
}

// P12.1: rounds that may not be, and kinds that are none.
func TestNoInput(t *testing.T) {
	for kind := -1; kind <= 14; kind++ {
		for step := fresh; step <= decided; step++ {
			for _, r := range []int{-1, -2, math.MinInt, api.MaxRound + 1, math.MaxInt} {
				in := round.Input{Kind: kind, Round: r, Block: a, Good: true, Own: b}
				for _, own := range []int{-3, -1, 4, r} {
					stays(t, "no round", state(at(own, step)), in)
				}
			}
			for r := 3; r <= 5 && (kind < round.Begin || kind > round.LatePrecommit); r++ {
				stays(t, "no kind", state(at(4, step)), round.Input{Kind: kind, Round: r, Block: a, Good: true, Own: b})
			}
		}
	}
}

// rule is one of S1's cases: when it does something, and what.
type rule struct {
	when func(s round.State, in round.Input) bool
	then func(s *round.State, in round.Input) []round.Output
}

func says(kind, r int, block api.Hash) []round.Output {
	return []round.Output{{Kind: kind, Round: r, Block: block}}
}

func here(s round.State, in round.Input, steps ...int) bool {
	return in.Round == s.Round && slices.Contains(steps, s.Step)
}

func vote(s *round.State, in round.Input, free bool) []round.Output {
	s.Step = 2
	if in.Good && in.Block != none && (free || in.Block == s.Locked) {
		return says(2, in.Round, in.Block)
	}
	return says(2, in.Round, none)
}

func skip(s *round.State, in round.Input) []round.Output {
	s.Step = 3
	return says(3, in.Round, none)
}

// plain are S1's cases as the document tells them, by their kinds.
func plain() map[int]rule {
	return map[int]rule{
		1: {func(s round.State, in round.Input) bool { return in.Round > s.Round && s.Step != 4 },
			func(s *round.State, in round.Input) []round.Output {
				s.Round, s.Step = in.Round, 1
				if in.Own == none {
					return says(4, in.Round, none)
				}
				if s.ValidRound >= 0 {
					return []round.Output{{Kind: 1, Round: in.Round, Block: s.Valid, Valid: s.ValidRound}}
				}
				return []round.Output{{Kind: 1, Round: in.Round, Block: in.Own, Valid: -1}}
			}},
		2: {func(s round.State, in round.Input) bool { return here(s, in, 1) },
			func(s *round.State, in round.Input) []round.Output { return vote(s, in, s.LockedRound < 0) }},
		3: {func(s round.State, in round.Input) bool {
			return here(s, in, 1) && in.Valid >= 0 && in.Valid < in.Round
		},
			func(s *round.State, in round.Input) []round.Output { return vote(s, in, s.LockedRound <= in.Valid) }},
		4: {func(s round.State, in round.Input) bool { return here(s, in, 2) && s.Waits < in.Round },
			func(s *round.State, in round.Input) []round.Output {
				s.Waits = in.Round
				return says(5, in.Round, none)
			}},
		5: {func(s round.State, in round.Input) bool {
			return here(s, in, 2, 3) && in.Good && in.Block != none && s.ValidRound < in.Round
		},
			func(s *round.State, in round.Input) []round.Output {
				s.Valid, s.ValidRound = in.Block, in.Round
				if s.Step == 3 {
					return nil
				}
				s.Locked, s.LockedRound, s.Step = in.Block, in.Round, 3
				return says(3, in.Round, in.Block)
			}},
		6: {func(s round.State, in round.Input) bool { return here(s, in, 2) }, skip},
		7: {func(s round.State, in round.Input) bool { return here(s, in, 1, 2, 3) && s.Waited < in.Round },
			func(s *round.State, in round.Input) []round.Output {
				s.Waited = in.Round
				return says(6, in.Round, none)
			}},
		8: {func(s round.State, in round.Input) bool { return s.Step != 4 && in.Good && in.Block != none },
			func(s *round.State, in round.Input) []round.Output {
				s.Block, s.Step = in.Block, 4
				return says(8, in.Round, in.Block)
			}},
		9: {func(s round.State, in round.Input) bool { return in.Round > s.Round && s.Step != 4 },
			func(s *round.State, in round.Input) []round.Output { return says(7, in.Round, none) }},
		10: {func(s round.State, in round.Input) bool { return here(s, in, 1) },
			func(s *round.State, in round.Input) []round.Output {
				s.Step = 2
				return says(2, in.Round, none)
			}},
		11: {func(s round.State, in round.Input) bool { return here(s, in, 2) }, skip},
		12: {func(s round.State, in round.Input) bool { return here(s, in, 1, 2, 3) && in.Round < 1<<20 },
			func(s *round.State, in round.Input) []round.Output { return says(7, in.Round+1, none) }},
	}
}

func plainStep(rules map[int]rule, s round.State, in round.Input) (round.State, []round.Output) {
	r, is := rules[in.Kind]
	if !is || in.Round < 0 || in.Round > 1<<20 || !r.when(s, in) {
		return s, nil
	}
	said := r.then(&s, in)
	return s, said
}

// one is any of these.
func one[T any](r *rand.Rand, l ...T) T { return l[r.IntN(len(l))] }

// any input about a round; one in a few is far off.
func anyInput(r *rand.Rand, about int) round.Input {
	in := round.Input{
		Kind:  r.IntN(14),
		Round: about + r.IntN(4) - 1,
		Block: one(r, none, a, b, c),
		Good:  r.IntN(5) > 0,
		Own:   one(r, none, none, a, c),
	}
	in.Valid = in.Round - r.IntN(5)
	if r.IntN(20) == 0 {
		in.Round = wild(r)
	}
	if r.IntN(20) == 0 {
		in.Valid = wild(r)
	}
	return in
}

func wild(r *rand.Rand) int {
	return one(r, math.MinInt, math.MinInt+1, -2, -1, 0, 1, api.MaxRound-1, api.MaxRound, api.MaxRound+1, math.MaxInt-1, math.MaxInt)
}

// P12.1, P1, P2: any state, also those that no calls lead to, against S1 told plainly.
func TestAnyState(t *testing.T) {
	r := rand.New(rand.NewPCG(12, 1))
	rules := plain()
	near := func(about int) int {
		if r.IntN(20) == 0 {
			return wild(r)
		}
		return about + r.IntN(5) - 3
	}
	for range 400000 {
		about := one(r, -1, 0, 1, 2, 5, api.MaxRound-1, api.MaxRound)
		s := round.State{
			Round: about, Step: r.IntN(6), Block: one(r, none, none, a),
			Locked: one(r, none, a, b), LockedRound: near(about),
			Valid: one(r, none, a, b), ValidRound: near(about),
			Waits: near(about), Waited: near(about),
		}
		if r.IntN(10) == 0 {
			s.Round, s.Step = wild(r), wild(r)
		}
		in := anyInput(r, about)
		want, said := plainStep(rules, s, in)
		got, out := round.Step(s, in)
		if got != want || !slices.Equal(out, said) {
			t.Fatalf("%+v behind %+v: %+v, %+v; want %+v, %+v", in, s, got, out, want, said)
		}
		for i := range out {
			out[i] = round.Output{Kind: -1} // what was answered is the caller's
		}
		if got, out = round.Step(s, in); got != want || !slices.Equal(out, said) {
			t.Fatalf("%+v behind %+v, asked again: %+v, %+v", in, s, got, out)
		}
	}
}

// told is what a walk heard and said.
type told struct {
	prevotes, precommits map[int]api.Hash
	most                 map[round.Input]bool // Round and Block: for it more than two thirds prevoted there
}

// hear notes what an input tells of prevotes, whether it does something or not.
func (x *told) hear(in round.Input) {
	switch in.Kind {
	case round.Agreed:
		x.most[round.Input{Round: in.Round, Block: in.Block}] = true
	case round.Again:
		x.most[round.Input{Round: in.Valid, Block: in.Block}] = true
	}
}

// since tells whether more than two thirds prevoted for a block in a round from first to last.
func (x *told) since(block api.Hash, first, last int) bool {
	for r := first; r <= last; r++ {
		if x.most[round.Input{Round: r, Block: block}] {
			return true
		}
	}
	return false
}

// say notes what was said, and tells what may not be.
func (x *told) say(t *testing.T, o round.Output) {
	t.Helper()
	switch o.Kind {
	case round.SayPrevote:
		if before, is := x.prevotes[o.Round]; is {
			t.Fatalf("prevotes of round %d: %v, %v", o.Round, before, o.Block)
		}
		x.prevotes[o.Round] = o.Block
		for r, block := range x.precommits {
			if r < o.Round && block != none && o.Block != none && block != o.Block && !x.since(o.Block, r, o.Round) {
				t.Fatalf("%v was precommitted in round %d, %v is prevoted for in round %d", block, r, o.Block, o.Round)
			}
		}
	case round.SayPrecommit:
		if before, is := x.precommits[o.Round]; is {
			t.Fatalf("precommits of round %d: %v, %v", o.Round, before, o.Block)
		}
		x.precommits[o.Round] = o.Block
	}
}

// P12.2, P12.3, P12.4: whatever comes in, from New on.
func TestWalks(t *testing.T) {
	r := rand.New(rand.NewPCG(12, 2))
	rules := plain()
	var votes, blocks, unlocked, ends int
	for range 12000 {
		s := round.New()
		x := &told{map[int]api.Hash{}, map[int]api.Hash{}, map[round.Input]bool{}}
		slow := r.IntN(3) > 0 // few decide: they walk farther
		for range 200 {
			in := anyInput(r, s.Round)
			if in.Kind == round.Decide && slow {
				in.Good = false
			}
			x.hear(in)
			next, out := round.Step(s, in)
			want, said := plainStep(rules, s, in)
			if next != want || !slices.Equal(out, said) {
				t.Fatalf("%+v behind %+v: %+v, %+v; want %+v, %+v", in, s, next, out, want, said)
			}
			if next.Round < s.Round {
				t.Fatalf("%+v: from round %d to %d", in, s.Round, next.Round)
			}
			if s.Step == decided && (next != s || len(out) > 0) {
				t.Fatalf("%+v once decided: %+v, %+v", in, next, out)
			}
			if next.LockedRound > s.LockedRound && s.LockedRound >= 0 && next.Locked != s.Locked {
				unlocked++
			}
			for _, o := range out {
				x.say(t, o)
			}
			s = next
		}
		votes += len(x.prevotes)
		for _, block := range x.precommits {
			if block != none {
				blocks++
			}
		}
		if s.Step == decided {
			ends++
		}
	}
	if votes < 20000 || blocks < 2000 || unlocked < 200 || ends < 2000 {
		t.Errorf("walks are too tame: %d prevotes, %d precommits for blocks, %d other locks, %d ends", votes, blocks, unlocked, ends)
	}
}

// P12.2: one round, in which all comes twice, and rounds that are over.
func TestOnce(t *testing.T) {
	s := round.New()
	x := &told{map[int]api.Hash{}, map[int]api.Hash{}, map[round.Input]bool{}}
	for r := range 4 {
		for range 2 {
			for kind := round.Begin; kind <= round.LatePrecommit; kind++ {
				for _, of := range []int{r, r - 1, 0} {
					if kind == round.Decide || kind == round.Later {
						continue
					}
					next, out := round.Step(s, round.Input{Kind: kind, Round: of, Block: a, Good: true, Valid: of - 1})
					for _, o := range out {
						x.say(t, o)
					}
					if next.Round != r {
						t.Fatalf("kind %d of round %d: at round %d", kind, of, next.Round)
					}
					s = next
				}
			}
		}
		if len(x.prevotes) != r+1 || len(x.precommits) != r+1 {
			t.Fatalf("behind round %d: %v, %v", r, x.prevotes, x.precommits)
		}
	}
}

// P12.3: who precommitted a in round 1 prevotes for b when it is shown prevotes from round 1 on, not ahead of that.
func TestLocksHold(t *testing.T) {
	s := state(at(0, precommitting))
	run := func(in round.Input, said round.Output) {
		t.Helper()
		next, out := round.Step(s, in)
		if !slices.Equal(out, []round.Output{said}) {
			t.Errorf("%+v behind %+v: %+v; want %+v", in, s, out, said)
		}
		s = next
	}
	run(round.Input{Kind: round.Begin, Round: 1}, round.Output{Kind: round.WaitPropose, Round: 1})
	run(round.Input{Kind: round.Propose, Round: 1, Block: a, Good: true}, round.Output{Kind: round.SayPrevote, Round: 1, Block: a})
	run(round.Input{Kind: round.Agreed, Round: 1, Block: a, Good: true}, round.Output{Kind: round.SayPrecommit, Round: 1, Block: a})
	run(round.Input{Kind: round.Begin, Round: 2}, round.Output{Kind: round.WaitPropose, Round: 2})
	run(round.Input{Kind: round.Propose, Round: 2, Block: b, Good: true}, round.Output{Kind: round.SayPrevote, Round: 2})
	run(round.Input{Kind: round.Nothing, Round: 2}, round.Output{Kind: round.SayPrecommit, Round: 2})
	run(round.Input{Kind: round.Begin, Round: 3}, round.Output{Kind: round.WaitPropose, Round: 3})
	run(round.Input{Kind: round.Again, Round: 3, Valid: 0, Block: b, Good: true}, round.Output{Kind: round.SayPrevote, Round: 3})
	run(round.Input{Kind: round.LatePrevote, Round: 3}, round.Output{Kind: round.SayPrecommit, Round: 3})
	run(round.Input{Kind: round.Begin, Round: 4}, round.Output{Kind: round.WaitPropose, Round: 4})
	run(round.Input{Kind: round.Again, Round: 4, Valid: 1, Block: b, Good: true}, round.Output{Kind: round.SayPrevote, Round: 4, Block: b})
	if s.Locked != a || s.LockedRound != 1 {
		t.Errorf("a prevote is no lock: %+v", s)
	}
	run(round.Input{Kind: round.LatePrevote, Round: 4}, round.Output{Kind: round.SayPrecommit, Round: 4})
	if out := agreedLate(t, &s); len(out) != 0 {
		t.Errorf("agreed behind its precommit: %+v", out)
	}
	run(round.Input{Kind: round.Begin, Round: 5, Own: c}, round.Output{Kind: round.Proposal, Round: 5, Block: b, Valid: 4})
	run(round.Input{Kind: round.Propose, Round: 5, Block: c, Good: true}, round.Output{Kind: round.SayPrevote, Round: 5})
}

// agreedLate is round 4's prevotes for b, which come behind its precommit: b is valid then, and a still locked.
func agreedLate(t *testing.T, s *round.State) []round.Output {
	t.Helper()
	next, out := round.Step(*s, round.Input{Kind: round.Agreed, Round: 4, Block: b, Good: true})
	if want := and(*s, valid(b, 4)); next != want {
		t.Errorf("agreed behind its precommit: %+v", next)
	}
	*s = next
	return out
}

// P12.4: behind a decision, all kinds of all rounds about it.
func TestTheEnd(t *testing.T) {
	for step := fresh; step <= precommitting; step++ {
		s, out := round.Step(state(at(3, step)), round.Input{Kind: round.Decide, Round: 2, Block: a, Good: true})
		if s.Step != decided || s.Block != a || len(out) != 1 {
			t.Fatalf("%+v, %+v", s, out)
		}
		for kind := -1; kind <= 14; kind++ {
			for r := -1; r <= 6; r++ {
				for _, block := range []api.Hash{none, a, b} {
					stays(t, "once decided", s, round.Input{Kind: kind, Round: r, Block: block, Valid: r - 1, Good: true, Own: c})
				}
			}
		}
	}
}
